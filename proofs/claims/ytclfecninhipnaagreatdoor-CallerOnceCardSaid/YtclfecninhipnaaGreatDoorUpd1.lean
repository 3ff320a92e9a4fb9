/-
  Updates: plain lists. Updates in memory: one by value, in seven cells, a slice of them, a row of the call's own; append. Package update: copyOf, selected. catenaryref10: SameUpdate, SameUpdates. catenaryref17: Runs, Batch, Fits. Package update: the function literals; Copy, Batch, Fits, Runs. Package update: Copy, Batch, Fits, Runs. Package update: isKind, Outcome; the statements' far and awake.
-/
import Derived.Test.YtclfecninhipnaaGreatDoorBase
import Derived.Lib.Hide
import Derived.Test.YtclfecninhipnaaGreatDoorProg
import Derived.Test.YtclfecninhipnaaGreatDoorRef
import Derived.WalkSpells
import Derived.WalkLawsBesides
import Derived.BigRegion
import Derived.Deep.QuietTactic
import Derived.BigQuiet
import Derived.Deep.RegionHeld3
import Derived.Deep.RegionLaw
import Derived.Deep.DeepMust
import Derived.Outline
import Derived.KernelRfl
import Derived.Deep.Cut
import Derived.StillTailTactics
import Derived.IntWalk
namespace Go.Proofs.YtclfecninhipnaaGreatDoor
open Go.RowKit
set_option linter.unusedVariables false

/-- An update: Seq, Client, Num, Kind, Key, Ver, Data. -/
structure Up where
  q : Int
  c : Int
  n : Int
  k : Int
  key : Int
  r : Int
  d : List Int
def up0 : Up := ⟨0, 0, 0, 0, 0, 0, []⟩
def nthU (l : List Up) (j : Nat) : Up := l.getD j up0
theorem nthU_at {l : List Up} {j : Nat} (h : j < l.length) : nthU l j = l[j] := by
  unfold nthU
  rw [List.getD_eq_getElem?_getD, List.getElem?_eq_getElem h]
  rfl
theorem nthU_take {l : List Up} {k j : Nat} (h : j < k) : nthU (l.take k) j = nthU l j := by
  unfold nthU
  rw [List.getD_eq_getElem?_getD, List.getD_eq_getElem?_getD, List.getElem?_take, if_pos h]
theorem takeU {l : List Up} {k : Nat} (h : k < l.length) : l.take (k + 1) = l.take k ++ [nthU l k] := by
  rw [List.take_succ_eq_append_getElem h, nthU_at h]
/-- An update's numbers. -/
def FitU (x : Up) : Prop := 0 ≤ x.q ∧ x.q ≤ 18446744073709551615 ∧ 0 ≤ x.n ∧ x.n ≤ 18446744073709551615 ∧ 0 ≤ x.key ∧ x.key ≤ 4294967295 ∧ 0 ≤ x.r ∧ x.r ≤ 18446744073709551615
def FitsU (l : List Up) : Prop := ∀ x ∈ l, FitU x
theorem FitsU.at_ {l : List Up} (h : FitsU l) {j : Nat} (hj : j < l.length) : FitU (nthU l j) := by
  rw [nthU_at hj]
  exact h _ (List.getElem_mem hj)
/-- What a function that keeps a number chooses. -/
def selU (st : Int → Up → Bool × Int) : Int → List Up → List Up
  | _, [] => []
  | s, x :: l => if (st s x).1 then x :: selU st (st s x).2 l else selU st (st s x).2 l
def endU (st : Int → Up → Bool × Int) : Int → List Up → Int
  | s, [] => s
  | s, x :: l => endU st (st s x).2 l
theorem endU_snoc (st : Int → Up → Bool × Int) (s : Int) (l : List Up) (x : Up) : endU st s (l ++ [x]) = (st (endU st s l) x).2 := by
  induction l generalizing s with
  | nil => rfl
  | cons y l ih => simp only [List.cons_append, endU, ih]
theorem selU_snoc (st : Int → Up → Bool × Int) (s : Int) (l : List Up) (x : Up) : selU st s (l ++ [x]) = selU st s l ++ (if (st (endU st s l) x).1 then [x] else []) := by
  induction l generalizing s with
  | nil => simp only [List.nil_append, selU, endU]; rfl
  | cons y l ih =>
    simp only [List.cons_append, selU, endU, ih]
    by_cases h : (st s y).1
    · rw [if_pos h, if_pos h]; rfl
    · rw [if_neg h, if_neg h]; rfl
theorem selU_len (st : Int → Up → Bool × Int) (s : Int) (l : List Up) : (selU st s l).length ≤ l.length := by
  induction l generalizing s with
  | nil => exact Nat.le_refl _
  | cons y l ih =>
    have := ih (st s y).2
    simp only [selU]
    by_cases h : (st s y).1
    · rw [if_pos h]; simp only [List.length_cons]; omega
    · rw [if_neg h]; simp only [List.length_cons]; omega
theorem selU_mem (st : Int → Up → Bool × Int) (s : Int) (l : List Up) (x : Up) (h : x ∈ selU st s l) : x ∈ l := by
  induction l generalizing s with
  | nil => exact h
  | cons y l ih =>
    simp only [selU] at h
    by_cases hy : (st s y).1
    · rw [if_pos hy] at h
      rcases List.mem_cons.1 h with rfl | h
      · exact List.mem_cons_self
      · exact List.mem_cons_of_mem _ (ih _ h)
    · rw [if_neg hy] at h
      exact List.mem_cons_of_mem _ (ih _ h)
/-- What a function that tells yes or no, by a number that it keeps, tells of all: the first no ends it. -/
def allU (st : Int → Up → Bool × Int) : Int → List Up → Bool
  | _, [] => true
  | s, x :: l => if (st s x).1 then allU st (st s x).2 l else false
theorem allU_sel (st : Int → Up → Bool × Int) (s : Int) (l : List Up) : allU st s l = true ↔ selU st s l = l := by
  induction l generalizing s with
  | nil => exact ⟨fun _ => rfl, fun _ => rfl⟩
  | cons y l ih =>
    simp only [allU, selU]
    by_cases h : (st s y).1
    · rw [if_pos h, if_pos h, ih]
      exact ⟨fun e => by rw [e], fun e => by injection e⟩
    · rw [if_neg h, if_neg h]
      refine ⟨fun e => (by cases e), fun e => ?_⟩
      have h1 := selU_len st (st s y).2 l
      have h2 := congrArg List.length e
      simp only [List.length_cons] at h2
      omega
/-- The first k of them are told yes. -/
theorem allU_snoc (st : Int → Up → Bool × Int) (s : Int) (l : List Up) (x : Up) : allU st s (l ++ [x]) = (allU st s l && (st (endU st s l) x).1) := by
  induction l generalizing s with
  | nil => simp only [List.nil_append, allU, endU]; cases (st s x).1 <;> rfl
  | cons y l ih =>
    simp only [List.cons_append, allU, endU, ih]
    cases (st s y).1 <;> rfl
theorem allU_no (st : Int → Up → Bool × Int) (s : Int) (l : List Up) (k : Nat) (hk : k < l.length) (h : allU st s (l.take (k + 1)) = false) : allU st s l = false := by
  induction l generalizing s k with
  | nil => exact absurd hk (by simp)
  | cons y l ih =>
    simp only [List.take_succ_cons, allU] at h ⊢
    by_cases hy : (st s y).1
    · rw [if_pos hy] at h ⊢
      cases k with
      | zero => simp [allU] at h
      | succ k => exact ih _ k (by simpa using hk) h
    · rw [if_neg hy]
/-- sequence: is the Seq the next one? -/
def seqU (s : Int) (x : Up) : Bool × Int := if x.q = 0 ∨ x.q ≠ s + 1 then (false, s) else (true, x.q)
/-- Batch: a Seq above after, as long as fewer than most were taken. -/
def batU (after most : Int) (s : Int) (x : Up) : Bool × Int := if x.q ≤ after ∨ most ≤ s then (false, s) else (true, s + 1)
/-- Copy. -/
def anyU (s : Int) (x : Up) : Bool × Int := (true, s)
theorem selU_any (s : Int) (l : List Up) : selU anyU s l = l := by
  induction l with
  | nil => rfl
  | cons y l ih => show y :: selU anyU s l = y :: l; rw [ih]
theorem endU_any (s : Int) (l : List Up) : endU anyU s l = s := by
  induction l with
  | nil => rfl
  | cons y l ih => exact ih
theorem endU_bat (after most s : Int) (l : List Up) : endU (batU after most) s l = s + (selU (batU after most) s l).length := by
  induction l generalizing s with
  | nil => simp [endU, selU]
  | cons y l ih =>
    simp only [endU, selU]
    rw [ih]
    unfold batU
    by_cases h : y.q ≤ after ∨ most ≤ s
    · simp [if_pos h]
    · simp [if_neg h]; omega
/-- What fits runs. -/
theorem seq_runs (s : Int) (l : List Up) : allU seqU s (selU seqU s l) = true := by
  induction l generalizing s with
  | nil => rfl
  | cons y l ih =>
    simp only [selU]
    by_cases h : (seqU s y).1
    · rw [if_pos h]
      simp only [allU]
      rw [if_pos h]
      exact ih _
    · rw [if_neg h]
      have h2 : (seqU s y).2 = s := by
        unfold seqU at h ⊢
        by_cases h3 : y.q = 0 ∨ y.q ≠ s + 1
        · rw [if_pos h3]
        · rw [if_neg h3] at h; exact absurd rfl h
      rw [h2]
      exact ih _
/-- As long as all are told yes, the number is how many there are more. -/
theorem endU_seq (s : Int) (l : List Up) (h : allU seqU s l = true) : endU seqU s l = s + l.length := by
  induction l generalizing s with
  | nil => simp [endU]
  | cons y l ih =>
    simp only [allU] at h
    by_cases hy : (seqU s y).1
    · rw [if_pos hy] at h
      simp only [endU]
      rw [ih _ h]
      have h2 : (seqU s y).2 = s + 1 := by
        unfold seqU at hy ⊢
        by_cases h3 : y.q = 0 ∨ y.q ≠ s + 1
        · rw [if_pos h3] at hy; cases hy
        · rw [if_neg h3]; show y.q = s + 1; omega
      rw [h2]
      simp only [List.length_cons]
      omega
    · rw [if_neg hy] at h; cases h
theorem FitsU.sel {l : List Up} (h : FitsU l) (st : Int → Up → Bool × Int) (s : Int) : FitsU (selU st s l) := fun x hx => h x (selU_mem st s l x hx)
theorem FitsU.take {l : List Up} (h : FitsU l) (k : Nat) : FitsU (l.take k) := fun x hx => h x (List.mem_of_mem_take hx)
/-- The kept number fits as what it began with. -/
theorem endU_fit (s : Int) (l : List Up) (h0 : 0 ≤ s ∧ s ≤ 18446744073709551615) (hl : FitsU l) : 0 ≤ endU seqU s l ∧ endU seqU s l ≤ 18446744073709551615 := by
  induction l generalizing s with
  | nil => exact h0
  | cons y l ih =>
    simp only [endU]
    refine ih _ ?_ (fun x hx => hl x (List.mem_cons_of_mem _ hx))
    unfold seqU
    by_cases h3 : y.q = 0 ∨ y.q ≠ s + 1
    · rw [if_pos h3]; exact h0
    · rw [if_neg h3]
      have := hl y List.mem_cons_self
      exact ⟨this.1, this.2.1⟩
end Go.Proofs.YtclfecninhipnaaGreatDoor
namespace Go.Proofs.YtclfecninhipnaaGreatDoor
open Go.RowKit
set_option linter.unusedVariables false

theorem addr_add17 (b o j : Nat) : (⟨b, o, none⟩ : Addr).add j = ⟨b, o + j, none⟩ := by unfold Addr.add; split <;> simp_all
theorem blkU_frozen {w : World} {g : Nat} {cs : Array Value} {t : TypeId} (h : w.heap[g]? = some (.cells cs t (0, 0))) (o : Nat) : w.frozen? ⟨g, o, none⟩ = false := by simp [World.frozen?, h]
theorem blkU_set {w : World} {g : Nat} {cs : Array Value} {t : TypeId} {fr : Nat × Nat} (h : w.heap[g]? = some (.cells cs t fr)) (i : Nat) (u : Value) :
    (w.setCell ⟨g, i, none⟩ u).heap[g]? = some (.cells (cs.setIfInBounds i u) t fr) := by simp [World.setCell, Array.getElem?_modify, h]
theorem blkU_set_other {w : World} {g k : Nat} {o : Obj} (h : w.heap[g]? = some o) (i : Nat) (u : Value) (hk : k ≠ g) :
    (w.setCell ⟨k, i, none⟩ u).heap[g]? = some o := by simp [World.setCell, Array.getElem?_modify, h, hk]
theorem blkU_alloc {w : World} {g : Nat} {o : Obj} (h : w.heap[g]? = some o) (x : Obj) : (w.alloc x).heap[g]? = some o := (heap_alloc_old w x (heap_lt h)).trans h
theorem cells7 {w : World} {b : Nat} {x0 x1 x2 x3 x4 x5 x6 : Value} {t : TypeId} (h : w.heap[b]? = some (.cells #[x0, x1, x2, x3, x4, x5, x6] t (0, 0))) :
    w.cell? ⟨b, 0, none⟩ = some x0 ∧ w.cell? ⟨b, 1, none⟩ = some x1 ∧ w.cell? ⟨b, 2, none⟩ = some x2 ∧ w.cell? ⟨b, 3, none⟩ = some x3 ∧ w.cell? ⟨b, 4, none⟩ = some x4 ∧ w.cell? ⟨b, 5, none⟩ = some x5 ∧ w.cell? ⟨b, 6, none⟩ = some x6 :=
  ⟨cell_of_row _ _ 0 _ _ _ h, cell_of_row _ _ 1 _ _ _ h, cell_of_row _ _ 2 _ _ _ h, cell_of_row _ _ 3 _ _ _ h, cell_of_row _ _ 4 _ _ _ h, cell_of_row _ _ 5 _ _ _ h, cell_of_row _ _ 6 _ _ _ h⟩
/-- An update's cells. -/
def ucs (x : Up) (u : Value) : List Value := [.int .u64 x.q, .int .i64 x.c, .int .u64 x.n, .int .i64 x.k, .int .u32 x.key, .int .u64 x.r, u]
/-- An update as a value. -/
def uag (x : Up) (u : Value) : Value := .agg #[.int .u64 x.q, .int .i64 x.c, .int .u64 x.n, .int .i64 x.k, .int .u32 x.key, .int .u64 x.r, u]
/-- An update in a block of its own. -/
def ublk (t : TypeId) (x : Up) (u : Value) : Obj := .cells #[.int .u64 x.q, .int .i64 x.c, .int .u64 x.n, .int .i64 x.k, .int .u32 x.key, .int .u64 x.r, u] t (0, 0)
/-- An update in a block's seven cells, stored one by one. -/
def seven17 (w : World) (b o : Nat) (x0 x1 x2 x3 x4 x5 x6 : Value) : World := ((((((w.setCell ⟨b, o, none⟩ x0).setCell ⟨b, o + 1, none⟩ x1).setCell ⟨b, o + 2, none⟩ x2).setCell ⟨b, o + 3, none⟩ x3).setCell ⟨b, o + 4, none⟩ x4).setCell ⟨b, o + 5, none⟩ x5).setCell ⟨b, o + 6, none⟩ x6
theorem seven17_at {w : World} {b : Nat} {a0 a1 a2 a3 a4 a5 a6 : Value} {t : TypeId} (h : w.heap[b]? = some (.cells #[a0, a1, a2, a3, a4, a5, a6] t (0, 0))) (x0 x1 x2 x3 x4 x5 x6 : Value) : (seven17 w b 0 x0 x1 x2 x3 x4 x5 x6).heap[b]? = some (.cells #[x0, x1, x2, x3, x4, x5, x6] t (0, 0)) := by
  unfold seven17
  have h0 : (w.setCell ⟨b, 0, none⟩ x0).heap[b]? = some (.cells #[x0, a1, a2, a3, a4, a5, a6] t (0, 0)) := blkU_set h 0 x0
  have h1 : ((w.setCell ⟨b, 0, none⟩ x0).setCell ⟨b, 0 + 1, none⟩ x1).heap[b]? = some (.cells #[x0, x1, a2, a3, a4, a5, a6] t (0, 0)) := blkU_set h0 1 x1
  have h2 : (((w.setCell ⟨b, 0, none⟩ x0).setCell ⟨b, 0 + 1, none⟩ x1).setCell ⟨b, 0 + 2, none⟩ x2).heap[b]? = some (.cells #[x0, x1, x2, a3, a4, a5, a6] t (0, 0)) := blkU_set h1 2 x2
  have h3 : ((((w.setCell ⟨b, 0, none⟩ x0).setCell ⟨b, 0 + 1, none⟩ x1).setCell ⟨b, 0 + 2, none⟩ x2).setCell ⟨b, 0 + 3, none⟩ x3).heap[b]? = some (.cells #[x0, x1, x2, x3, a4, a5, a6] t (0, 0)) := blkU_set h2 3 x3
  have h4 : (((((w.setCell ⟨b, 0, none⟩ x0).setCell ⟨b, 0 + 1, none⟩ x1).setCell ⟨b, 0 + 2, none⟩ x2).setCell ⟨b, 0 + 3, none⟩ x3).setCell ⟨b, 0 + 4, none⟩ x4).heap[b]? = some (.cells #[x0, x1, x2, x3, x4, a5, a6] t (0, 0)) := blkU_set h3 4 x4
  have h5 : ((((((w.setCell ⟨b, 0, none⟩ x0).setCell ⟨b, 0 + 1, none⟩ x1).setCell ⟨b, 0 + 2, none⟩ x2).setCell ⟨b, 0 + 3, none⟩ x3).setCell ⟨b, 0 + 4, none⟩ x4).setCell ⟨b, 0 + 5, none⟩ x5).heap[b]? = some (.cells #[x0, x1, x2, x3, x4, x5, a6] t (0, 0)) := blkU_set h4 5 x5
  have h6 : (((((((w.setCell ⟨b, 0, none⟩ x0).setCell ⟨b, 0 + 1, none⟩ x1).setCell ⟨b, 0 + 2, none⟩ x2).setCell ⟨b, 0 + 3, none⟩ x3).setCell ⟨b, 0 + 4, none⟩ x4).setCell ⟨b, 0 + 5, none⟩ x5).setCell ⟨b, 0 + 6, none⟩ x6).heap[b]? = some (.cells #[x0, x1, x2, x3, x4, x5, x6] t (0, 0)) := blkU_set h5 6 x6
  exact h6
theorem Kept.seven17 {S : Nat → Prop} {a w : World} (h : Kept S a w) {b : Nat} (hb : S b ∨ a.heap.size ≤ b) (o : Nat) (x0 x1 x2 x3 x4 x5 x6 : Value) : Kept S a (Go.Proofs.YtclfecninhipnaaGreatDoor.seven17 w b o x0 x1 x2 x3 x4 x5 x6) :=
  ((((((h.setCell (p := ⟨b, o, none⟩) hb _).setCell (p := ⟨b, o + 1, none⟩) hb _).setCell (p := ⟨b, o + 2, none⟩) hb _).setCell (p := ⟨b, o + 3, none⟩) hb _).setCell (p := ⟨b, o + 4, none⟩) hb _).setCell (p := ⟨b, o + 5, none⟩) hb _).setCell (p := ⟨b, o + 6, none⟩) hb _
/-- An update by value, its data in blocks of F. -/
def UpV (w : World) (F : Nat → Prop) (v : Value) (x : Up) : Prop := ∃ u, v = .agg #[.int .u64 x.q, .int .i64 x.c, .int .u64 x.n, .int .i64 x.k, .int .u32 x.key, .int .u64 x.r, u] ∧ BSl w F u x.d
/-- One whose data are a row of the call's own. -/
def UpO (w : World) (F : Nat → Prop) (v : Value) (x : Up) : Prop := ∃ u, v = .agg #[.int .u64 x.q, .int .i64 x.c, .int .u64 x.n, .int .i64 x.k, .int .u32 x.key, .int .u64 x.r, u] ∧ Own w F u x.d
theorem UpV.kept {S F : Nat → Prop} {w w' : World} {v : Value} {x : Up} (h : UpV w F v x) (hk : Kept S w w') (hs : ∀ k, F k → ¬ S k) : UpV w' F v x := by
  obtain ⟨u, h1, h2⟩ := h
  exact ⟨u, h1, h2.kept hk hs⟩
theorem UpV.no {F : Nat → Prop} {w w' : World} {v : Value} {x : Up} (h : UpV w F v x) (hk : Kept NoB w w') : UpV w' F v x := h.kept hk (fun _ _ h => h)
theorem UpV.mono {F G : Nat → Prop} {w : World} {v : Value} {x : Up} (h : UpV w F v x) (hG : ∀ k, k < w.heap.size → F k → G k) : UpV w G v x := by
  obtain ⟨u, h1, h2⟩ := h
  exact ⟨u, h1, h2.mono hG⟩
theorem UpV.zero (w : World) (F : Nat → Prop) : UpV w F (.agg #[.int .u64 0, .int .i64 0, .int .u64 0, .int .i64 0, .int .u32 0, .int .u64 0, .slice none 0 0]) up0 := ⟨_, rfl, BSl.nil _ _⟩
theorem UpO.v {w : World} {F : Nat → Prop} {v : Value} {x : Up} (h : UpO w F v x) : UpV w F v x := by
  obtain ⟨u, h1, h2⟩ := h
  exact ⟨u, h1, h2.bsl⟩
theorem UpO.no {F : Nat → Prop} {w w' : World} {v : Value} {x : Up} (h : UpO w F v x) (hk : Kept NoB w w') : UpO w' F v x := by
  obtain ⟨u, h1, h2⟩ := h
  exact ⟨u, h1, h2.kept hk (fun _ _ h => h)⟩
theorem UpO.mono {F G : Nat → Prop} {w : World} {v : Value} {x : Up} (h : UpO w F v x) (hG : ∀ k, k < w.heap.size → F k → G k) : UpO w G v x := by
  obtain ⟨u, h1, h2⟩ := h
  exact ⟨u, h1, h2.mono hG⟩
theorem UpO.zero (w : World) (F : Nat → Prop) : UpO w F (.agg #[.int .u64 0, .int .i64 0, .int .u64 0, .int .i64 0, .int .u32 0, .int .u64 0, .slice none 0 0]) up0 := ⟨_, rfl, Own.nil _ _⟩
/-- Seven cells that are an update. -/
def UpAt (w : World) (F : Nat → Prop) (b o : Nat) (x : Up) : Prop :=
  ∃ u, w.cell? ⟨b, o, none⟩ = some (.int .u64 x.q) ∧ w.cell? ⟨b, o + 1, none⟩ = some (.int .i64 x.c) ∧ w.cell? ⟨b, o + 2, none⟩ = some (.int .u64 x.n) ∧ w.cell? ⟨b, o + 3, none⟩ = some (.int .i64 x.k) ∧ w.cell? ⟨b, o + 4, none⟩ = some (.int .u32 x.key) ∧ w.cell? ⟨b, o + 5, none⟩ = some (.int .u64 x.r) ∧ w.cell? ⟨b, o + 6, none⟩ = some u ∧ BSl w F u x.d
theorem UpAt.kept {S F : Nat → Prop} {w w' : World} {b o : Nat} {x : Up} (h : UpAt w F b o x) (hk : Kept S w w') (hb : ¬ S b) (hs : ∀ k, F k → ¬ S k) : UpAt w' F b o x := by
  obtain ⟨u, h1, h2, h3, h4, h5, h6, h7, h8⟩ := h
  exact ⟨u, hk.cell (p := ⟨b, o, none⟩) hb h1, hk.cell (p := ⟨b, o + 1, none⟩) hb h2, hk.cell (p := ⟨b, o + 2, none⟩) hb h3, hk.cell (p := ⟨b, o + 3, none⟩) hb h4, hk.cell (p := ⟨b, o + 4, none⟩) hb h5, hk.cell (p := ⟨b, o + 5, none⟩) hb h6, hk.cell (p := ⟨b, o + 6, none⟩) hb h7, h8.kept hk hs⟩
theorem UpAt.mono {F G : Nat → Prop} {w : World} {b o : Nat} {x : Up} (h : UpAt w F b o x) (hG : ∀ k, k < w.heap.size → F k → G k) : UpAt w G b o x := by
  obtain ⟨u, h1, h2, h3, h4, h5, h6, h7, h8⟩ := h
  exact ⟨u, h1, h2, h3, h4, h5, h6, h7, h8.mono hG⟩
/-- A slice that reads as these updates, in blocks of F. -/
def UsAt (w : World) (F : Nat → Prop) (v : Value) (l : List Up) : Prop :=
  ∃ a c, v = .slice a l.length c ∧ l.length ≤ c ∧ c ≤ maxLen ∧ (a = none → c = 0) ∧ (0 < l.length → ∃ b o, a = some ⟨b, o, none⟩ ∧ F b ∧ b < w.heap.size ∧ ∀ j, j < l.length → UpAt w F b (o + j * 7) (nthU l j))
theorem UsAt.nil (w : World) (F : Nat → Prop) : UsAt w F (.slice none 0 0) [] := ⟨none, 0, rfl, Nat.le_refl _, Nat.zero_le _, fun _ => rfl, fun h => absurd h (by simp)⟩
theorem UsAt.form {w : World} {F : Nat → Prop} {v : Value} {l : List Up} (h : UsAt w F v l) : ∃ a c, v = .slice a l.length c := by
  obtain ⟨a, c, h, _⟩ := h
  exact ⟨a, c, h⟩
theorem UsAt.kept {S F : Nat → Prop} {w w' : World} {v : Value} {l : List Up} (h : UsAt w F v l) (hk : Kept S w w') (hs : ∀ k, F k → ¬ S k) : UsAt w' F v l := by
  obtain ⟨a, c, h1, h2, h3, h4, h5⟩ := h
  exact ⟨a, c, h1, h2, h3, h4, fun hp => by
    obtain ⟨b, o, e, hF, hb, hc⟩ := h5 hp
    exact ⟨b, o, e, hF, Nat.lt_of_lt_of_le hb hk.size, fun j hj => (hc j hj).kept hk (hs b hF) hs⟩⟩
theorem UsAt.no {F : Nat → Prop} {w w' : World} {v : Value} {l : List Up} (h : UsAt w F v l) (hk : Kept NoB w w') : UsAt w' F v l := h.kept hk (fun _ _ h => h)
theorem UsAt.mono {F G : Nat → Prop} {w : World} {v : Value} {l : List Up} (h : UsAt w F v l) (hG : ∀ k, k < w.heap.size → F k → G k) : UsAt w G v l := by
  obtain ⟨a, c, h1, h2, h3, h4, h5⟩ := h
  exact ⟨a, c, h1, h2, h3, h4, fun hp => by
    obtain ⟨b, o, e, hF, hb, hc⟩ := h5 hp
    exact ⟨b, o, e, hG b hb hF, hb, fun j hj => (hc j hj).mono hG⟩⟩
theorem UsAt.at_ {w : World} {F : Nat → Prop} {a : Option Addr} {n c : Nat} {l : List Up} (h : UsAt w F (.slice a n c) l) {j : Nat} (hj : j < l.length) : ∃ b o, a = some ⟨b, o, none⟩ ∧ F b ∧ b < w.heap.size ∧ UpAt w F b (o + j * 7) (nthU l j) := by
  obtain ⟨a', c', e, h2, h3, h4, h5⟩ := h
  injection e with e1 e2 e3
  subst e1 e3
  obtain ⟨b, o, e, hF, hb, hc⟩ := h5 (by omega)
  exact ⟨b, o, e, hF, hb, hc j hj⟩
theorem UsAt.len {w : World} {F : Nat → Prop} {a : Option Addr} {n c : Nat} {l : List Up} (h : UsAt w F (.slice a n c) l) : n = l.length ∧ n ≤ c ∧ c ≤ maxLen ∧ (a = none → c = 0) := by
  obtain ⟨a', c', e, h2, h3, h4, h5⟩ := h
  injection e with e1 e2 e3
  subst e1 e2 e3
  exact ⟨rfl, h2, h3, h4⟩
/-- The cells of updates, each with its data's slice. -/
def ucl (ps : List (Up × Value)) : List Value := ps.flatMap fun p => ucs p.1 p.2
theorem ucs_len (x : Up) (u : Value) : (ucs x u).length = 7 := rfl
theorem ucl_app (a b : List (Up × Value)) : ucl (a ++ b) = ucl a ++ ucl b := by simp [ucl]
theorem ucl_len (a : List (Up × Value)) : (ucl a).length = a.length * 7 := by
  induction a with
  | nil => rfl
  | cons p a ih =>
    have : ucl (p :: a) = ucs p.1 p.2 ++ ucl a := rfl
    rw [this, List.length_append, ih, List.length_cons, ucs_len]
    omega
theorem ucl_at (a : List (Up × Value)) (j i : Nat) (hj : j < a.length) (hi : i < 7) : (ucl a)[j * 7 + i]? = (ucs (a[j]).1 (a[j]).2)[i]? := by
  induction a generalizing j with
  | nil => exact absurd hj (by simp)
  | cons p a ih =>
    have e : ucl (p :: a) = ucs p.1 p.2 ++ ucl a := rfl
    rw [e]
    cases j with
    | zero =>
      rw [Nat.zero_mul, Nat.zero_add, List.getElem?_append_left (by rw [ucs_len]; exact hi)]
      rfl
    | succ j =>
      rw [List.getElem?_append_right (by rw [ucs_len]; omega)]
      simp only [ucs_len, List.getElem_cons_succ]
      rw [show (j + 1) * 7 + i - 7 = j * 7 + i by omega]
      exact ih j (by simpa using hj)
/-- A row of updates of the call's own, from block B on; e: the element type. -/
def UOw (e : TypeId) (B : Nat) (w : World) (v : Value) (ps : List (Up × Value)) : Prop := w.ownsRow B e 7 v ps.length (ucl ps)
theorem UOw.nil (e : TypeId) (B : Nat) (w : World) : UOw e B w (.slice none 0 0) [] := World.ownsRow_nil _ _ _ _
theorem UOw.form {e : TypeId} {B : Nat} {w : World} {v : Value} {l : List (Up × Value)} (h : UOw e B w v l) : ∃ a c, v = .slice a l.length c := by
  rcases h.2 with ⟨rfl, h0⟩ | ⟨r, cap, cur, rfl, _⟩
  · exact ⟨none, 0, by rw [h0]⟩
  · exact ⟨_, _, rfl⟩
theorem UOw.kept {S : Nat → Prop} {e : TypeId} {B : Nat} {w w' : World} {v : Value} {l : List (Up × Value)} (h : UOw e B w v l) (hk : Kept S w w') (hs : ∀ k, v.ownBlock = some k → ¬ S k) : UOw e B w' v l := by
  refine ⟨h.1, ?_⟩
  rcases h.2 with hn | ⟨r, cap, cur, rfl, hb, hr, rest⟩
  · exact .inl hn
  · exact .inr ⟨r, cap, cur, rfl, hb, hk.heap (hs r rfl) hr, rest⟩
theorem UOw.no {e : TypeId} {B : Nat} {w w' : World} {v : Value} {l : List (Up × Value)} (h : UOw e B w v l) (hk : Kept NoB w w') : UOw e B w' v l := h.kept hk (fun _ _ h => h)
theorem UOw.base {e : TypeId} {B : Nat} {w : World} {v : Value} {l : List (Up × Value)} (h : UOw e B w v l) (k : Nat) (hk : v.ownBlock = some k) : B ≤ k ∧ k < w.heap.size := by
  rcases h.2 with ⟨rfl, _⟩ | ⟨r, cap, cur, rfl, hb, hr, _⟩
  · cases hk
  · injection hk with hk
    subst hk
    exact ⟨hb, heap_lt hr⟩
theorem UOw.mono {e : TypeId} {B C : Nat} {w : World} {v : Value} {l : List (Up × Value)} (h : UOw e B w v l) (hB : C ≤ B) : UOw e C w v l := by
  refine ⟨h.1, ?_⟩
  rcases h.2 with hn | ⟨r, cap, cur, rfl, hb, rest⟩
  · exact .inl hn
  · exact .inr ⟨r, cap, cur, rfl, Nat.le_trans hB hb, rest⟩
/-- Its data lie in blocks of F. -/
def DatU (w : World) (F : Nat → Prop) (ps : List (Up × Value)) : Prop := ∀ p ∈ ps, BSl w F p.2 p.1.d
theorem DatU.kept {S F : Nat → Prop} {w w' : World} {ps : List (Up × Value)} (h : DatU w F ps) (hk : Kept S w w') (hs : ∀ k, F k → ¬ S k) : DatU w' F ps := fun p hp => (h p hp).kept hk hs
theorem DatU.mono {F G : Nat → Prop} {w : World} {ps : List (Up × Value)} (h : DatU w F ps) (hG : ∀ k, k < w.heap.size → F k → G k) : DatU w G ps := fun p hp => (h p hp).mono hG
theorem UOw.us {e : TypeId} {B : Nat} {w : World} {v : Value} {ps : List (Up × Value)} {F : Nat → Prop} (h : UOw e B w v ps) (hF : ∀ k, v.ownBlock = some k → F k) (hn : DatU w F ps) : UsAt w F v (ps.map Prod.fst) := by
  have hl : (ps.map Prod.fst).length = ps.length := List.length_map _
  rcases h.2 with ⟨rfl, h0⟩ | ⟨r, cap, cur, rfl, hb, hr, hc, hm, _⟩
  · obtain rfl : ps = [] := List.eq_nil_of_length_eq_zero h0
    exact UsAt.nil w F
  · refine ⟨_, cap, by rw [hl], by rw [hl]; exact hc, hm, (fun h => by cases h), fun _ => ⟨r, 0, rfl, hF r rfl, heap_lt hr, fun j hj => ?_⟩⟩
    rw [hl] at hj
    have hx : ∀ i, i < 7 → ∀ u, (ucs (ps[j]).1 (ps[j]).2)[i]? = some u → w.cell? ⟨r, 0 + j * 7 + i, none⟩ = some u := fun i hi u hu => by
      have := h.cells (g := r) rfl (j * 7 + i) u (by rw [ucl_at ps j i hj hi]; exact hu)
      rw [addr_add17] at this
      rw [show 0 + j * 7 + i = 0 + (j * 7 + i) by omega]
      exact this
    have hnj : nthU (ps.map Prod.fst) j = (ps[j]).1 := by rw [nthU_at (by rw [hl]; exact hj)]; simp
    rw [hnj]
    exact ⟨(ps[j]).2, hx 0 (by omega) _ rfl, hx 1 (by omega) _ rfl, hx 2 (by omega) _ rfl, hx 3 (by omega) _ rfl, hx 4 (by omega) _ rfl, hx 5 (by omega) _ rfl, hx 6 (by omega) _ rfl, hn _ (List.getElem_mem hj)⟩
theorem ucs_one {w : World} {F : Nat → Prop} {x : Up} {y : Value} (h : BSl w F y x.d) : ∀ u ∈ ucs x y, u.oneCell' = true := by
  intro u hu
  simp only [ucs, List.mem_cons, List.not_mem_nil, or_false] at hu
  rcases hu with rfl | rfl | rfl | rfl | rfl | rfl | rfl
  iterate 6 rfl
  obtain ⟨_, _, he, _⟩ := h; rw [he]; rfl
section
variable {P : Program} (t e : TypeId) (i0 : TypeInfo) (ht : P.underlying t = some (.slice e)) (hi : P.info? e = some i0) (hz0 : i0.zero = some (.agg #[.int .u64 0, .int .i64 0, .int .u64 0, .int .i64 0, .int .u32 0, .int .u64 0, .slice none 0 0])) (hz1 : i0.size = 7) (hz2 : i0.bytes = 72)
include ht hi hz0 hz1 hz2
/-- append of one update that lies in a block to a row of the call's own. -/
theorem run_append_u1 (w : World) (base : Nat) (ty : TypeId) (v : Value) (ps : List (Up × Value)) (hown : UOw e base w v ps) (b : Nat) (c : Up) (u : Value) (t' : TypeId) (hb : w.heap[b]? = some (.cells #[.int .u64 c.q, .int .i64 c.c, .int .u64 c.n, .int .i64 c.k, .int .u32 c.key, .int .u64 c.r, u] t' (0, 0))) (hu : u.oneCell' = true) (hl : ps.length ≤ 100000) (hbase : base ≤ w.heap.size) :
    ∃ a' c' w', (Builtin.append_ #[t, t] ty #[v, .slice (some ⟨b, 0, none⟩) 1 1]).run P w = .ok (.slice a' (ps.length + 1) c') w' ∧ UOw e base w' (.slice a' (ps.length + 1) c') (ps ++ [(c, u)]) ∧ w.grownBy w' v.ownBlock ∧ ((Value.slice a' (ps.length + 1) c').ownBlock = v.ownBlock ∨ (Value.slice a' (ps.length + 1) c').ownBlock = some w.heap.size) := by
  obtain ⟨v', w', hrun, h2, h3, _, h5⟩ := run_append_own_at (P := P) w base t ty e i0 _ 7 72 ht hi hz0 hz1 hz2 rfl (by decide) v ps.length _ hown ⟨b, 0, none⟩ 1 1 (ucl [(c, u)]) (by simp [ucl, ucs]) (World.news_of_block hb) (by
    intro x hx
    simp only [ucl, ucs, List.flatMap_cons, List.flatMap_nil, List.append_nil, List.mem_cons, List.not_mem_nil, or_false] at hx
    rcases hx with rfl | rfl | rfl | rfl | rfl | rfl | rfl
    iterate 6 rfl
    exact hu) (by unfold maxLen; omega) (by omega) hbase
  have h2' : UOw e base w' v' (ps ++ [(c, u)]) := by
    unfold UOw
    rw [ucl_app, List.length_append]
    exact h2
  obtain ⟨a', c', ee⟩ := h2'.form
  rw [List.length_append] at ee
  have ee : v' = .slice a' (ps.length + 1) c' := ee
  subst ee
  exact ⟨a', c', w', hrun, h2', h3, h5⟩
theorem wpList_append_u1 (w : World) {ops : Array Oper} {rest : List Oper} {o : Oper} {a : Act} {Q : Exit → Act → World → Prop} (hgd : o.guard = none) (s x : Operand)
    (ho : o.op = .call { callee := .builtin .append, args := #[s, x], argTypes := #[t, t] })
    (base : Nat) (v : Value) (ps : List (Up × Value)) (hs : a.eval s = v) (hown : UOw e base w v ps) (b : Nat) (c : Up) (u : Value) (t' : TypeId) (hx : a.eval x = .slice (some ⟨b, 0, none⟩) 1 1) (hb : w.heap[b]? = some (.cells #[.int .u64 c.q, .int .i64 c.c, .int .u64 c.n, .int .i64 c.k, .int .u32 c.key, .int .u64 c.r, u] t' (0, 0))) (hu : u.oneCell' = true) (hl : ps.length ≤ 100000) (hbase : base ≤ w.heap.size) (N : Nat) (hN : ps.length + 1 = N)
    (h : ∀ a' c' w', UOw e base w' (.slice a' N c') (ps ++ [(c, u)]) → w.grownBy w' v.ownBlock → ((Value.slice a' N c').ownBlock = v.ownBlock ∨ (Value.slice a' N c').ownBlock = some w.heap.size) → wpList P ops Q rest (a.put o.dst (.slice a' N c')) w') : wpList P ops Q (o :: rest) a w :=
  wpList_plain hgd fun K hK => by
    subst hN
    obtain ⟨a', c', w', hrun, h2, h3, h4⟩ := run_append_u1 t e i0 ht hi hz0 hz1 hz2 w base o.type v ps hown b c u t' hb hu hl hbase
    unfold Oper.wp execOp
    simp only [ho, resolve, invoke, builtin, Sem.run_bind, Sem.run_pure, Result.andThen_ok, List.map_toArray, List.map_cons, List.map_nil, hs, hx, hrun]
    exact hK _ _ (h a' c' w' h2 h3 h4)
end
end Go.Proofs.YtclfecninhipnaaGreatDoor
namespace Go.Proofs.YtclfecninhipnaaGreatDoor
open Go.RowKit
set_option linter.unusedVariables false
set_option linter.unusedSimpArgs false

theorem info_upd : (Tryz.prog.info? 84).map (fun i => (i.zero, i.size, i.bytes)) = some (some (.agg #[.int .u64 0, .int .i64 0, .int .u64 0, .int .i64 0, .int .u32 0, .int .u64 0, .slice none 0 0]), 7, 72) := by kernel_rfl
/-- bytes.Clone: a slice of the call's own. -/
theorem Clone_own17 (v : Value) (l : List Int) (F : Nat → Prop) (w : World) (h : BSl w F v l) (hl : l.length ≤ 1000000) :
    Calls Tryz.prog 32 #[v] w fun e w' => ∃ v', e = .returned v' ∧ Own w' (fun k => w.heap.size ≤ k) v' l ∧ Kept NoB w w' := by
  obtain ⟨i0, hi0, hz0, hz1, hz2⟩ := info_parts Tryz.info5
  have HB := Lib.hid h
  obtain ⟨a, cap, rfl, hc, hm, hn, hr⟩ := h
  have hq := fun (w : World) => Lib.run_eql_slice_nil (P := Tryz.prog) w 24 5 a l.length cap 0 0 Tryz.underlying24
  rcases a with _ | ad
  · have h0 := hn rfl
    subst h0
    have hl : l = [] := List.eq_nil_of_length_eq_zero (by omega)
    subst hl
    simp only [Option.isNone, List.length_nil] at hq
    go_enter Tryz.func32, Tryz.ntmps32
    go_wp2
    go_ret
    exact ⟨_, rfl, Own.nil _ _, Kept.refl _ _⟩
  · simp only [Option.isNone] at hq
    clear hr hn
    go_enter Tryz.func32, Tryz.ntmps32
    go_wp2_with (at_builtin; refine wpList_append_bsl _ rfl (.tmp 5) (.tmp 6) _ rfl 5 i0 _ Tryz.underlying24 hi0 hz0 hz1 hz2 rfl (.slice (some ⟨w.heap.size, 0, none⟩) 0 0) 0 [] rfl (World.ownsRow_made w #[] 0 (Nat.zero_le _) (by decide) rfl) F _ l rfl (HB.out.kept ((Kept.refl NoB _).alloc _) (fun _ _ h => h)) (by omega) ?_; intro a' c' w1 hown1 hg1 hat1)
    go_ret
    have hk1 : Kept NoB w w1 := ((Kept.refl _ _).alloc _).grown hg1 (fun k hk => .inr (by simp [Value.ownBlock] at hk; omega))
    simp only [Nat.zero_add, List.nil_append] at hown1 hat1
    refine ⟨.slice a' l.length c', rfl, ⟨HB.out.isB, hown1, fun k hk => ?_⟩, hk1⟩
    rcases hat1 with e | e <;> rw [e] at hk <;> simp [Value.ownBlock] at hk <;> omega

/-- A function of the program that has a body. -/
def Enters17 (f : FuncId) : Prop := ∀ (args : Array Value) (w : World), Sem.run Tryz.prog (callFunc f args) w = .ok (.enter f args) w
set_option maxRecDepth 100000 in
set_option maxHeartbeats 1000000 in
theorem UCopyOf_any (w : World) (v : Value) (x : Up) (F : Nat → Prop) (h : UpV w F v x) (hl : x.d.length ≤ 1000000) : Calls Tryz.prog 55 #[v] w fun e w' => ∃ v', e = .returned v' ∧ UpO w' (fun k => w.heap.size ≤ k) v' x ∧ Kept NoB w w' := by
  obtain ⟨u, rfl, hd⟩ := h
  obtain ⟨y0, y1, y2, y3, y4, y5, y6⟩ := x
  simp only at hd hl ⊢
  have hk2 := ((Kept.refl NoB w).alloc (.cells #[.int .u64 y0, .int .i64 y1, .int .u64 y2, .int .i64 y3, .int .u32 y4, .int .u64 y5, u] 84)).alloc (.cells #[.int .u64 0, .int .i64 0, .int .u64 0, .int .i64 0, .int .u32 0, .int .u64 0, .slice none 0 0] 84)
  have h1 := heap_alloc_new w (.cells #[.int .u64 y0, .int .i64 y1, .int .u64 y2, .int .i64 y3, .int .u32 y4, .int .u64 y5, u] 84)
  have h2 := heap_alloc_new (w.alloc (.cells #[.int .u64 y0, .int .i64 y1, .int .u64 y2, .int .i64 y3, .int .u32 y4, .int .u64 y5, u] 84)) (.cells #[.int .u64 0, .int .i64 0, .int .u64 0, .int .i64 0, .int .u32 0, .int .u64 0, .slice none 0 0] 84)
  have HC := Lib.hid (Clone_own17 u y6 F _ (hd.kept hk2 (fun _ _ h => h)) hl)
  have h1' := blkU_alloc h1 (.cells #[.int .u64 0, .int .i64 0, .int .u64 0, .int .i64 0, .int .u32 0, .int .u64 0, .slice none 0 0] 84)
  rw [show (w.alloc (.cells #[.int .u64 y0, .int .i64 y1, .int .u64 y2, .int .i64 y3, .int .u32 y4, .int .u64 y5, u] 84)).heap.size = w.heap.size + 1 by simp] at h2
  obtain ⟨ua, uc, rfl, _⟩ := hd
  have HK := Lib.hid hk2
  have H1 := Lib.hid h1'
  have H2 := Lib.hid h2
  have HZ : Hid (((w.alloc (.cells #[.int .u64 y0, .int .i64 y1, .int .u64 y2, .int .i64 y3, .int .u32 y4, .int .u64 y5, .slice ua y6.length uc] 84)).alloc (.cells #[.int .u64 0, .int .i64 0, .int .u64 0, .int .i64 0, .int .u32 0, .int .u64 0, .slice none 0 0] 84)).heap.size = w.heap.size + 2) := Lib.hid (by simp)
  clear hk2 h1 h2 h1' hl
  go_enter Tryz.func55, Tryz.ntmps55
  go_wp2_with fail
  refine HC.out.mono ?_
  rintro e w1 ⟨v', rfl, hv, hk⟩
  obtain ⟨va, vc, rfl⟩ := own_form hv.2.1
  have HV := Lib.hid (hv.mono (G := fun k => w.heap.size + 2 ≤ k) (fun k _ h => by have := HZ.out; omega))
  have HK1 := Lib.hid (HK.out.trans hk (fun _ _ h => h))
  have h1 := hk.heap (fun h => h) H1.out
  have h2 := hk.heap (fun h => h) H2.out
  obtain ⟨c0, c1, c2, c3, c4, c5, c6⟩ := cells7 h1
  obtain ⟨r0, r1, r2, r3, r4, r5, r6⟩ := cells7 h2
  have z1 := blkU_frozen h1
  have z2 := blkU_frozen h2
  have H1' := Lib.hid h1
  have H2' := Lib.hid h2
  have hne : ¬ w.heap.size + 1 = w.heap.size := by omega
  have hne2 : ¬ w.heap.size = w.heap.size + 1 := by omega
  clear hk hv h1 h2
  go_wp2
  have hF := seven17_at (blkU_set_other H2'.out 6 (.slice va y6.length vc) hne2) (.int .u64 y0) (.int .i64 y1) (.int .u64 y2) (.int .i64 y3) (.int .u32 y4) (.int .u64 y5) (.slice va y6.length vc)
  have hK := (HK1.out.setCell (p := ⟨w.heap.size, 6, none⟩) (.inr (Nat.le_refl _)) (.slice va y6.length vc)).seven17 (b := w.heap.size + 1) (.inr (by omega)) 0 (.int .u64 y0) (.int .i64 y1) (.int .u64 y2) (.int .i64 y3) (.int .u32 y4) (.int .u64 y5) (.slice va y6.length vc)
  have hO := HV.out.kept (((Kept.refl (fun k => k < w.heap.size + 2) w1).setCell (p := ⟨w.heap.size, 6, none⟩) (.inl (by show w.heap.size < w.heap.size + 2; omega)) (.slice va y6.length vc)).seven17 (b := w.heap.size + 1) (.inl (by omega)) 0 (.int .u64 y0) (.int .i64 y1) (.int .u64 y2) (.int .i64 y3) (.int .u32 y4) (.int .u64 y5) (.slice va y6.length vc)) (fun k h h' => by omega)
  clear c0 c1 c2 c3 c4 c5 c6 r0 r1 r2 r3 r4 r5 r6 z1 z2
  obtain ⟨r0, r1, r2, r3, r4, r5, r6⟩ := cells7 hF
  clear hF
  unfold seven17 at r0 r1 r2 r3 r4 r5 r6 hK hO
  simp only [Nat.zero_add] at r0 r1 r2 r3 r4 r5 r6 hK hO
  generalize hW : World.setCell _ _ _ = W3 at r0 r1 r2 r3 r4 r5 r6 hK hO ⊢
  exact bodyPost_ret (v := .agg #[.int .u64 y0, .int .i64 y1, .int .u64 y2, .int .i64 y3, .int .u32 y4, .int .u64 y5, .slice va y6.length vc]) (by simp [results, Tryz.results55, go_sem, r0, r1, r2, r3, r4, r5, r6]) rfl ⟨_, rfl, ⟨_, rfl, hO.mono (fun k _ h => by omega)⟩, hK⟩
/-- Their data are rows of the call's own. -/
def DatO (w : World) (F : Nat → Prop) (ps : List (Up × Value)) : Prop := ∀ p ∈ ps, Own w F p.2 p.1.d
theorem DatO.u {w : World} {F : Nat → Prop} {ps : List (Up × Value)} (h : DatO w F ps) : DatU w F ps := fun p hp => (h p hp).bsl
theorem DatO.mono {F G : Nat → Prop} {w : World} {ps : List (Up × Value)} (h : DatO w F ps) (hG : ∀ k, k < w.heap.size → F k → G k) : DatO w G ps := fun p hp => (h p hp).mono hG
theorem Own.row17 {w : World} {F : Nat → Prop} {v : Value} {l : List Int} (h : Own w F v l) {k : Nat} (hk : v.ownBlock = some k) : ∃ cs fr, w.heap[k]? = some (.cells cs 5 fr) := by
  rcases h.2.1.2 with ⟨rfl, _⟩ | ⟨r, cap, cur, rfl, _, hr, _⟩
  · cases hk
  · injection hk with hk
    subst hk
    exact ⟨_, _, hr⟩
/-- Data are not a block of updates. -/
theorem Own.kept17 {S F : Nat → Prop} {w w' : World} {v : Value} {l : List Int} (h : Own w F v l) (hk : Kept S w w') (hs : ∀ k cs fr, w.heap[k]? = some (.cells cs 5 fr) → F k → ¬ S k) : Own w' F v l := by
  have h2 : Own w (fun k => F k ∧ v.ownBlock = some k) v l := ⟨h.1, h.2.1, fun k hk => ⟨h.2.2 k hk, hk⟩⟩
  have h3 := h2.kept hk (fun k ⟨h4, h5⟩ => by obtain ⟨cs, fr, h6⟩ := h.row17 h5; exact hs k cs fr h6 h4)
  exact ⟨h3.1, h3.2.1, fun k hk => (h3.2.2 k hk).1⟩
theorem DatO.kept17 {S F : Nat → Prop} {w w' : World} {ps : List (Up × Value)} (h : DatO w F ps) (hk : Kept S w w') (hs : ∀ k cs fr, w.heap[k]? = some (.cells cs 5 fr) → F k → ¬ S k) : DatO w' F ps := fun p hp => (h p hp).kept17 hk hs
theorem DatO.no {F : Nat → Prop} {w w' : World} {ps : List (Up × Value)} (h : DatO w F ps) (hk : Kept NoB w w') : DatO w' F ps := h.kept17 hk (fun _ _ _ _ _ h => h)
/-- A function literal that keeps a number, and tells by it. -/
structure TakesU (f : FuncId) (caps : Array Value) (T : Nat → Prop) (st : Int → Up → Bool × Int) (St : Int → World → Prop) (s0 : Int) (w : World) (F : Nat → Prop) (l : List Up) : Prop where
  ent : Enters17 f
  keep : ∀ s a b S, St s a → Kept S a b → (∀ k, k < w.heap.size → ¬ S k) → St s b
  lt : ∀ k, T k → k < w.heap.size
  far : ∀ k, F k → ¬ T k ∧ k < w.heap.size
  call : ∀ s x v w', (∃ k, k < l.length ∧ s = endU st s0 (l.take k)) → x ∈ l → UpV w' F v x → St s w' → Kept T w w' → Calls Tryz.prog f (#[v] ++ caps) w' fun e w'' => e = .returned (.bool (st s x).1) ∧ St (st s x).2 w'' ∧ Kept T w' w''
/-- What is chosen: a row of the call's own, with data of its own. -/
def SelEnd (w : World) (T : Nat → Prop) (St : Int → World → Prop) (s : Int) (out : List Up) (e : Ending) (w' : World) : Prop :=
  ∃ a c ps, e = .returned (.slice a out.length c) ∧ UOw 84 w.heap.size w' (.slice a out.length c) ps ∧ ps.map Prod.fst = out ∧ DatO w' (fun k => w.heap.size ≤ k) ps ∧ St s w' ∧ Kept T w w'
def SelRel (w : World) (l : List Up) (st : Int → Up → Bool × Int) (T : Nat → Prop) (St : Int → World → Prop) (s0 : Int) (ov iv : Value) (wr : World) : Prop :=
  ∃ (k : Nat) (ps : List (Up × Value)), k ≤ l.length ∧ iv = .int .i64 k ∧ UOw 84 w.heap.size wr ov ps ∧ ps.map Prod.fst = selU st s0 (l.take k) ∧ DatO wr (fun k => w.heap.size ≤ k) ps ∧ St (endU st s0 (l.take k)) wr ∧ Kept T w wr
end Go.Proofs.YtclfecninhipnaaGreatDoor
namespace Go.Proofs.YtclfecninhipnaaGreatDoor
open Go.RowKit
set_option linter.unusedVariables false
set_option linter.unusedSimpArgs false

theorem up_eq (x y : Up) : (x.q = y.q ∧ x.c = y.c ∧ x.n = y.n ∧ x.k = y.k ∧ x.key = y.key ∧ x.r = y.r ∧ x.d = y.d) ↔ x = y := by
  obtain ⟨x0, x1, x2, x3, x4, x5, x6⟩ := x
  obtain ⟨y0, y1, y2, y3, y4, y5, y6⟩ := y
  simp
instance upDec : DecidableEq Up := fun x y => decidable_of_iff _ (up_eq x y)
end Go.Proofs.YtclfecninhipnaaGreatDoor
namespace Go.Proofs.YtclfecninhipnaaGreatDoor
open Go.RowKit
set_option linter.unusedVariables false
set_option linter.unusedSimpArgs false

def NewOr17 (F : Nat → Prop) (n : Nat) : Nat → Prop := fun k => F k ∨ n ≤ k
/-- What the chapter's Batch and Fits tell. -/
def RSelE (w : World) (F : Nat → Prop) (out : List Up) (e : Ending) (w' : World) : Prop :=
  ∃ v', e = .returned v' ∧ UsAt w' (NewOr17 F w.heap.size) v' out ∧ Kept NoB w w'
end Go.Proofs.YtclfecninhipnaaGreatDoor
namespace Go.Proofs.YtclfecninhipnaaGreatDoor
open Go.RowKit
set_option linter.unusedVariables false
set_option linter.unusedSimpArgs false

/-- A block of one number. -/
def NumAt (t : TypeId) (b : Nat) (s : Value) (w : World) : Prop := w.heap[b]? = some (.cells #[s] t (0, 0))
theorem NumAt.keep {t : TypeId} {b : Nat} {s : Value} {S : Nat → Prop} {a c : World} (h : NumAt t b s a) (hk : Kept S a c) (hs : ¬ S b) : NumAt t b s c := hk.heap hs h
theorem NumAt.cell {t : TypeId} {b : Nat} {s : Value} {w : World} (h : NumAt t b s w) : w.cell? ⟨b, 0, none⟩ = some s := cell_of_row _ _ 0 _ _ _ h
theorem NumAt.set {t : TypeId} {b : Nat} {s : Value} {w : World} (h : NumAt t b s w) (u : Value) : NumAt t b u (w.setCell ⟨b, 0, none⟩ u) := blkU_set h 0 u
/-- sequence's number. -/
def SeqSt (b : Nat) (s : Int) (w : World) : Prop := NumAt 23 b (.int .u64 s) w ∧ 0 ≤ s ∧ s ≤ 18446744073709551615
/-- Batch's number, beside what it is held against. -/
def BatSt (b b1 b2 : Nat) (after most : Int) (s : Int) (w : World) : Prop := NumAt 3 b (.int .i64 s) w ∧ NumAt 23 b1 (.int .u64 after) w ∧ NumAt 3 b2 (.int .i64 most) w ∧ 0 ≤ s ∧ s ≤ 10000 ∧ b1 ≠ b ∧ b2 ≠ b
end Go.Proofs.YtclfecninhipnaaGreatDoor
namespace Go.Proofs.YtclfecninhipnaaGreatDoor
open Go.RowKit
set_option linter.unusedVariables false
set_option linter.unusedSimpArgs false

/-- What Copy, Batch and Fits tell. -/
def OwnEnd (w : World) (out : List Up) (e : Ending) (w' : World) : Prop :=
  ∃ a c ps, e = .returned (.slice a out.length c) ∧ UOw 84 w.heap.size w' (.slice a out.length c) ps ∧ ps.map Prod.fst = out ∧ DatO w' (fun k => w.heap.size ≤ k) ps ∧ Kept NoB w w'
theorem OwnEnd.of {w w1 w' : World} {T : Nat → Prop} {St : Int → World → Prop} {s : Int} {out : List Up} {e : Ending} (h : SelEnd w1 T St s out e w') (hk : Kept NoB w w1) (hT : ∀ k, T k → w.heap.size ≤ k) : OwnEnd w out e w' := by
  obtain ⟨a, c, ps, h1, h2, h3, h4, _, h5⟩ := h
  exact ⟨a, c, ps, h1, h2.mono hk.size, h3, h4.mono (fun k _ h => by have := hk.size; omega), hk.trans h5 (fun i hi ht => by have := hT i ht; omega)⟩
theorem OwnEnd.us {w w' : World} {out : List Up} {e : Ending} (h : OwnEnd w out e w') : ∃ a c, e = .returned (.slice a out.length c) ∧ UsAt w' (fun k => w.heap.size ≤ k) (.slice a out.length c) out ∧ Kept NoB w w' := by
  obtain ⟨a, c, ps, h1, h2, h3, h4, h5⟩ := h
  exact ⟨a, c, h1, h3 ▸ h2.us (fun k hk => (h2.base k hk).1) h4.u, h5⟩
theorem seq_new (w : World) (s : Int) (h0 : 0 ≤ s) (h1 : s ≤ 18446744073709551615) : SeqSt w.heap.size s (w.alloc (.cells #[.int .u64 s] 23)) := ⟨heap_alloc_new w _, h0, h1⟩
def RunRel (w : World) (l : List Up) (b : Nat) (s0 : Int) (iv : Value) (wr : World) : Prop :=
  ∃ k : Nat, k ≤ l.length ∧ iv = .int .i64 k ∧ allU seqU s0 (l.take k) = true ∧ SeqSt b (endU seqU s0 (l.take k)) wr ∧ Kept (fun k => k = b) w wr
end Go.Proofs.YtclfecninhipnaaGreatDoor
namespace Go.Proofs.YtclfecninhipnaaGreatDoor
open Go.RowKit
set_option linter.unusedVariables false
set_option linter.unusedSimpArgs false

/-- What comes of an update: code, version, made. -/
def outU (x : Up) (ver : Int) (room : Bool) : Int × Int × Bool :=
  if ¬ (x.k = 2 ∨ x.k = 3) then (1, ver, false) else if x.k = 3 ∧ x.r ≠ ver then (11, ver, false) else if ver = 18446744073709551615 ∨ (ver = 0 ∧ room = false) then (9, ver, false) else (0, ver + 1, true)
def OutE (r : Int × Int × Bool) (w : World) (e : Ending) (w' : World) : Prop := e = .returned (.tuple #[.int .i64 r.1, .int .u64 r.2.1, .bool r.2.2]) ∧ Kept NoB w w'
set_option maxRecDepth 100000 in
theorem UisKind_any (w : World) (k : Int) : Calls Tryz.prog 129 #[.int .i64 k] w fun e w' => e = .returned (.bool (decide (k = 2 ∨ k = 3))) ∧ w = w' := by
  by_cases h2 : k = 2
  · have g1 : (k == 2) = true := by simpa using h2
    have HR : Hid (decide (k = 2 ∨ k = 3) = true) := Lib.hid (decide_eq_true (.inl h2))
    clear h2
    go_enter Tryz.func129, Tryz.ntmps129
    go_wp2
    go_ret
    exact ⟨by rw [HR.out]; rfl, rfl⟩
  · have g1 : (k == 2) = false := by simpa using h2
    by_cases h3 : k = 3
    · have g2 : (k == 3) = true := by simpa using h3
      have HR : Hid (decide (k = 2 ∨ k = 3) = true) := Lib.hid (decide_eq_true (.inr h3))
      clear h2 h3
      go_enter Tryz.func129, Tryz.ntmps129
      go_wp2
      go_ret
      exact ⟨by rw [HR.out]; rfl, rfl⟩
    · have g2 : (k == 3) = false := by simpa using h3
      have HR : Hid (decide (k = 2 ∨ k = 3) = false) := Lib.hid (decide_eq_false (fun h => h.elim h2 h3))
      clear h2 h3
      go_enter Tryz.func129, Tryz.ntmps129
      go_wp2
      go_ret
      exact ⟨by rw [HR.out]; rfl, rfl⟩
/-- What is looked at. -/
def farU (l : List Up) : Bool := l.any (fun x => decide (2100 < x.d.length)) || decide (40 < l.length)
theorem farU_not {l : List Up} (h : farU l = false) : l.length ≤ 40 ∧ ∀ x ∈ l, x.d.length ≤ 2100 := by
  unfold farU at h
  rw [Bool.or_eq_false_iff] at h
  have h2 := of_decide_eq_false h.2
  refine ⟨by omega, fun x hx => ?_⟩
  have h1 := List.any_eq_false.1 h.1 x hx
  simp at h1
  omega
def exU : Up := ⟨0, 0, 0, 3, 0, 3, []⟩
end Go.Proofs.YtclfecninhipnaaGreatDoor
