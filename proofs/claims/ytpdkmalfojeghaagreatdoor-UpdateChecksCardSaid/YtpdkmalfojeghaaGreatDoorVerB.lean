/-
  Versions in memory: one by value, in three cells, a slice of them, a row of the call's own; append.
-/
import Derived.Test.YtpdkmalfojeghaaGreatDoorProg
import Derived.Test.YtpdkmalfojeghaaGreatDoorVerA
import Derived.Test.YtpdkmalfojeghaaGreatDoorRef
import Derived.WalkSpells
import Derived.WalkLawsBesides
import Derived.BigRegion
import Derived.Deep.QuietTactic
import Derived.BigQuiet
import Derived.Deep.RegionHeld3
import Derived.Deep.RegionLaw
import Derived.Deep.DeepMust
import Derived.Outline
import Derived.KernelRfl
import Derived.Deep.Cut
import Derived.StillTailTactics
namespace Go.Proofs.YtpdkmalfojeghaaGreatDoor
open Go.RowKit
set_option linter.unusedVariables false

theorem addr_add15 (b o j : Nat) : (⟨b, o, none⟩ : Addr).add j = ⟨b, o + j, none⟩ := by unfold Addr.add; split <;> simp_all
theorem blkV_frozen {w : World} {g : Nat} {cs : Array Value} {t : TypeId} (h : w.heap[g]? = some (.cells cs t (0, 0))) (o : Nat) : w.frozen? ⟨g, o, none⟩ = false := by simp [World.frozen?, h]
theorem blkV_set {w : World} {g : Nat} {cs : Array Value} {t : TypeId} {fr : Nat × Nat} (h : w.heap[g]? = some (.cells cs t fr)) (i : Nat) (u : Value) :
    (w.setCell ⟨g, i, none⟩ u).heap[g]? = some (.cells (cs.setIfInBounds i u) t fr) := by simp [World.setCell, Array.getElem?_modify, h]
theorem blkV_set_other {w : World} {g k : Nat} {o : Obj} (h : w.heap[g]? = some o) (i : Nat) (u : Value) (hk : k ≠ g) :
    (w.setCell ⟨k, i, none⟩ u).heap[g]? = some o := by simp [World.setCell, Array.getElem?_modify, h, hk]
theorem blkV_alloc {w : World} {g : Nat} {o : Obj} (h : w.heap[g]? = some o) (x : Obj) : (w.alloc x).heap[g]? = some o := (heap_alloc_old w x (heap_lt h)).trans h
theorem cells3v {w : World} {b : Nat} {x y z : Value} {t : TypeId} (h : w.heap[b]? = some (.cells #[x, y, z] t (0, 0))) :
    w.cell? ⟨b, 0, none⟩ = some x ∧ w.cell? ⟨b, 1, none⟩ = some y ∧ w.cell? ⟨b, 2, none⟩ = some z :=
  ⟨cell_of_row _ _ 0 _ _ _ h, cell_of_row _ _ 1 _ _ _ h, cell_of_row _ _ 2 _ _ _ h⟩
/-- A version in a block's three cells, stored one by one. -/
def three15 (w : World) (b o : Nat) (x y z : Value) : World := ((w.setCell ⟨b, o, none⟩ x).setCell ⟨b, o + 1, none⟩ y).setCell ⟨b, o + 2, none⟩ z
theorem three15_at {w : World} {b : Nat} {a b' c : Value} {t : TypeId} (h : w.heap[b]? = some (.cells #[a, b', c] t (0, 0))) (x y z : Value) : (three15 w b 0 x y z).heap[b]? = some (.cells #[x, y, z] t (0, 0)) :=
  blkV_set (blkV_set (blkV_set h 0 _) 1 _) 2 _
theorem Kept.three15 {S : Nat → Prop} {a w : World} (h : Kept S a w) {b : Nat} (hb : S b ∨ a.heap.size ≤ b) (o : Nat) (x y z : Value) : Kept S a (Go.Proofs.YtpdkmalfojeghaaGreatDoor.three15 w b o x y z) :=
  ((h.setCell (p := ⟨b, o, none⟩) hb _).setCell (p := ⟨b, o + 1, none⟩) hb _).setCell (p := ⟨b, o + 2, none⟩) hb _
/-- A version by value, its data in blocks of F. -/
def VnV (w : World) (F : Nat → Prop) (v : Value) (x : Vn) : Prop := ∃ u, v = .agg #[.int .u64 x.r, .int .u64 x.q, u] ∧ BSl w F u x.d
/-- One whose data are a row of the call's own. -/
def VnO (w : World) (F : Nat → Prop) (v : Value) (x : Vn) : Prop := ∃ u, v = .agg #[.int .u64 x.r, .int .u64 x.q, u] ∧ Own w F u x.d
theorem VnV.kept {S F : Nat → Prop} {w w' : World} {v : Value} {x : Vn} (h : VnV w F v x) (hk : Kept S w w') (hs : ∀ k, F k → ¬ S k) : VnV w' F v x := by
  obtain ⟨u, h1, h2⟩ := h
  exact ⟨u, h1, h2.kept hk hs⟩
theorem VnV.no {F : Nat → Prop} {w w' : World} {v : Value} {x : Vn} (h : VnV w F v x) (hk : Kept NoB w w') : VnV w' F v x := h.kept hk (fun _ _ h => h)
theorem VnV.mono {F G : Nat → Prop} {w : World} {v : Value} {x : Vn} (h : VnV w F v x) (hG : ∀ k, k < w.heap.size → F k → G k) : VnV w G v x := by
  obtain ⟨u, h1, h2⟩ := h
  exact ⟨u, h1, h2.mono hG⟩
theorem VnV.zero (w : World) (F : Nat → Prop) : VnV w F (.agg #[.int .u64 0, .int .u64 0, .slice none 0 0]) vn0 := ⟨_, rfl, BSl.nil _ _⟩
theorem VnO.v {w : World} {F : Nat → Prop} {v : Value} {x : Vn} (h : VnO w F v x) : VnV w F v x := by
  obtain ⟨u, h1, h2⟩ := h
  exact ⟨u, h1, h2.bsl⟩
theorem VnO.no {F : Nat → Prop} {w w' : World} {v : Value} {x : Vn} (h : VnO w F v x) (hk : Kept NoB w w') : VnO w' F v x := by
  obtain ⟨u, h1, h2⟩ := h
  exact ⟨u, h1, h2.kept hk (fun _ _ h => h)⟩
theorem VnO.mono {F G : Nat → Prop} {w : World} {v : Value} {x : Vn} (h : VnO w F v x) (hG : ∀ k, k < w.heap.size → F k → G k) : VnO w G v x := by
  obtain ⟨u, h1, h2⟩ := h
  exact ⟨u, h1, h2.mono hG⟩
theorem VnO.zero (w : World) (F : Nat → Prop) : VnO w F (.agg #[.int .u64 0, .int .u64 0, .slice none 0 0]) vn0 := ⟨_, rfl, Own.nil _ _⟩
/-- Three cells that are a version. -/
def VnAt (w : World) (F : Nat → Prop) (b o : Nat) (x : Vn) : Prop :=
  ∃ u, w.cell? ⟨b, o, none⟩ = some (.int .u64 x.r) ∧ w.cell? ⟨b, o + 1, none⟩ = some (.int .u64 x.q) ∧ w.cell? ⟨b, o + 2, none⟩ = some u ∧ BSl w F u x.d
theorem VnAt.kept {S F : Nat → Prop} {w w' : World} {b o : Nat} {x : Vn} (h : VnAt w F b o x) (hk : Kept S w w') (hb : ¬ S b) (hs : ∀ k, F k → ¬ S k) : VnAt w' F b o x := by
  obtain ⟨u, h1, h2, h3, h4⟩ := h
  exact ⟨u, hk.cell (p := ⟨b, o, none⟩) hb h1, hk.cell (p := ⟨b, o + 1, none⟩) hb h2, hk.cell (p := ⟨b, o + 2, none⟩) hb h3, h4.kept hk hs⟩
theorem VnAt.mono {F G : Nat → Prop} {w : World} {b o : Nat} {x : Vn} (h : VnAt w F b o x) (hG : ∀ k, k < w.heap.size → F k → G k) : VnAt w G b o x := by
  obtain ⟨u, h1, h2, h3, h4⟩ := h
  exact ⟨u, h1, h2, h3, h4.mono hG⟩
/-- A slice that reads as these versions, in blocks of F. -/
def VsAt (w : World) (F : Nat → Prop) (v : Value) (l : List Vn) : Prop :=
  ∃ a c, v = .slice a l.length c ∧ l.length ≤ c ∧ c ≤ maxLen ∧ (a = none → c = 0) ∧ (0 < l.length → ∃ b o, a = some ⟨b, o, none⟩ ∧ F b ∧ b < w.heap.size ∧ ∀ j, j < l.length → VnAt w F b (o + j * 3) (nthV l j))
theorem VsAt.nil (w : World) (F : Nat → Prop) : VsAt w F (.slice none 0 0) [] := ⟨none, 0, rfl, Nat.le_refl _, Nat.zero_le _, fun _ => rfl, fun h => absurd h (by simp)⟩
theorem VsAt.form {w : World} {F : Nat → Prop} {v : Value} {l : List Vn} (h : VsAt w F v l) : ∃ a c, v = .slice a l.length c := by
  obtain ⟨a, c, h, _⟩ := h
  exact ⟨a, c, h⟩
theorem VsAt.kept {S F : Nat → Prop} {w w' : World} {v : Value} {l : List Vn} (h : VsAt w F v l) (hk : Kept S w w') (hs : ∀ k, F k → ¬ S k) : VsAt w' F v l := by
  obtain ⟨a, c, h1, h2, h3, h4, h5⟩ := h
  exact ⟨a, c, h1, h2, h3, h4, fun hp => by
    obtain ⟨b, o, e, hF, hb, hc⟩ := h5 hp
    exact ⟨b, o, e, hF, Nat.lt_of_lt_of_le hb hk.size, fun j hj => (hc j hj).kept hk (hs b hF) hs⟩⟩
theorem VsAt.no {F : Nat → Prop} {w w' : World} {v : Value} {l : List Vn} (h : VsAt w F v l) (hk : Kept NoB w w') : VsAt w' F v l := h.kept hk (fun _ _ h => h)
theorem VsAt.mono {F G : Nat → Prop} {w : World} {v : Value} {l : List Vn} (h : VsAt w F v l) (hG : ∀ k, k < w.heap.size → F k → G k) : VsAt w G v l := by
  obtain ⟨a, c, h1, h2, h3, h4, h5⟩ := h
  exact ⟨a, c, h1, h2, h3, h4, fun hp => by
    obtain ⟨b, o, e, hF, hb, hc⟩ := h5 hp
    exact ⟨b, o, e, hG b hb hF, hb, fun j hj => (hc j hj).mono hG⟩⟩
theorem VsAt.at_ {w : World} {F : Nat → Prop} {a : Option Addr} {n c : Nat} {l : List Vn} (h : VsAt w F (.slice a n c) l) {j : Nat} (hj : j < l.length) : ∃ b o, a = some ⟨b, o, none⟩ ∧ F b ∧ b < w.heap.size ∧ VnAt w F b (o + j * 3) (nthV l j) := by
  obtain ⟨a', c', e, h2, h3, h4, h5⟩ := h
  injection e with e1 e2 e3
  subst e1 e3
  obtain ⟨b, o, e, hF, hb, hc⟩ := h5 (by omega)
  exact ⟨b, o, e, hF, hb, hc j hj⟩
theorem VsAt.len {w : World} {F : Nat → Prop} {a : Option Addr} {n c : Nat} {l : List Vn} (h : VsAt w F (.slice a n c) l) : n = l.length ∧ n ≤ c ∧ c ≤ maxLen ∧ (a = none → c = 0) := by
  obtain ⟨a', c', e, h2, h3, h4, h5⟩ := h
  injection e with e1 e2 e3
  subst e1 e2 e3
  exact ⟨rfl, h2, h3, h4⟩
/-- l[:k:k]. -/
theorem VsAt.take3 {w : World} {F : Nat → Prop} {a : Option Addr} {n c : Nat} {l : List Vn} (h : VsAt w F (.slice a n c) l) {k : Nat} (hk : k ≤ l.length) : VsAt w F (.slice a k k) (l.take k) := by
  obtain ⟨a', c', e, h2, h3, h4, h5⟩ := h
  injection e with e1 e2 e3
  subst e1 e2 e3
  have e : (l.take k).length = k := by rw [List.length_take, Nat.min_eq_left hk]
  refine ⟨a, k, by rw [e], by omega, by omega, fun hn => by have := h4 hn; omega, fun hp => ?_⟩
  obtain ⟨b, o, ha, hF, hb, hc⟩ := h5 (by omega)
  refine ⟨b, o, ha, hF, hb, fun j hj => ?_⟩
  rw [nthV_take (by omega)]
  exact hc j (by omega)
/-- The cells of versions, each with its data's slice. -/
def vcl (ps : List (Vn × Value)) : List Value := ps.flatMap fun p => [.int .u64 p.1.r, .int .u64 p.1.q, p.2]
theorem vcl_app (a b : List (Vn × Value)) : vcl (a ++ b) = vcl a ++ vcl b := by simp [vcl]
theorem vcl_len (a : List (Vn × Value)) : (vcl a).length = a.length * 3 := by
  induction a with
  | nil => rfl
  | cons p a ih =>
    have : vcl (p :: a) = [.int .u64 p.1.r, .int .u64 p.1.q, p.2] ++ vcl a := rfl
    rw [this, List.length_append, ih, List.length_cons]
    simp only [List.length_cons, List.length_nil]
    omega
theorem vcl_at (a : List (Vn × Value)) (j i : Nat) (hj : j < a.length) (hi : i < 3) : (vcl a)[j * 3 + i]? = [Value.int .u64 (a[j]).1.r, .int .u64 (a[j]).1.q, (a[j]).2][i]? := by
  induction a generalizing j with
  | nil => exact absurd hj (by simp)
  | cons p a ih =>
    have e : vcl (p :: a) = [.int .u64 p.1.r, .int .u64 p.1.q, p.2] ++ vcl a := rfl
    rw [e]
    cases j with
    | zero =>
      rw [Nat.zero_mul, Nat.zero_add, List.getElem?_append_left (by simpa using hi)]
      rfl
    | succ j =>
      rw [List.getElem?_append_right (by simp only [List.length_cons, List.length_nil]; omega)]
      simp only [List.length_cons, List.length_nil, List.getElem_cons_succ]
      rw [show (j + 1) * 3 + i - (0 + 1 + 1 + 1) = j * 3 + i by omega]
      exact ih j (by simpa using hj)
theorem vcl_drop (a : List (Vn × Value)) (k : Nat) : vcl (a.drop k) = (vcl a).drop (k * 3) := by
  induction k generalizing a with
  | zero => simp
  | succ k ih =>
    cases a with
    | nil => simp [vcl]
    | cons p a =>
      have e : vcl (p :: a) = [.int .u64 p.1.r, .int .u64 p.1.q, p.2] ++ vcl a := rfl
      rw [List.drop_succ_cons, ih, e, show (k + 1) * 3 = k * 3 + 1 + 1 + 1 by omega]
      rfl
/-- A row of versions of the call's own, from block B on; e: the element type. -/
def VOw (e : TypeId) (B : Nat) (w : World) (v : Value) (ps : List (Vn × Value)) : Prop := w.ownsRow B e 3 v ps.length (vcl ps)
theorem VOw.nil (e : TypeId) (B : Nat) (w : World) : VOw e B w (.slice none 0 0) [] := World.ownsRow_nil _ _ _ _
theorem VOw.form {e : TypeId} {B : Nat} {w : World} {v : Value} {l : List (Vn × Value)} (h : VOw e B w v l) : ∃ a c, v = .slice a l.length c := by
  rcases h.2 with ⟨rfl, h0⟩ | ⟨r, cap, cur, rfl, _⟩
  · exact ⟨none, 0, by rw [h0]⟩
  · exact ⟨_, _, rfl⟩
theorem VOw.kept {S : Nat → Prop} {e : TypeId} {B : Nat} {w w' : World} {v : Value} {l : List (Vn × Value)} (h : VOw e B w v l) (hk : Kept S w w') (hs : ∀ k, v.ownBlock = some k → ¬ S k) : VOw e B w' v l := by
  refine ⟨h.1, ?_⟩
  rcases h.2 with hn | ⟨r, cap, cur, rfl, hb, hr, rest⟩
  · exact .inl hn
  · exact .inr ⟨r, cap, cur, rfl, hb, hk.heap (hs r rfl) hr, rest⟩
theorem VOw.no {e : TypeId} {B : Nat} {w w' : World} {v : Value} {l : List (Vn × Value)} (h : VOw e B w v l) (hk : Kept NoB w w') : VOw e B w' v l := h.kept hk (fun _ _ h => h)
theorem VOw.base {e : TypeId} {B : Nat} {w : World} {v : Value} {l : List (Vn × Value)} (h : VOw e B w v l) (k : Nat) (hk : v.ownBlock = some k) : B ≤ k ∧ k < w.heap.size := by
  rcases h.2 with ⟨rfl, _⟩ | ⟨r, cap, cur, rfl, hb, hr, _⟩
  · cases hk
  · injection hk with hk
    subst hk
    exact ⟨hb, heap_lt hr⟩
theorem VOw.mono {e : TypeId} {B C : Nat} {w : World} {v : Value} {l : List (Vn × Value)} (h : VOw e B w v l) (hB : C ≤ B) : VOw e C w v l := by
  refine ⟨h.1, ?_⟩
  rcases h.2 with hn | ⟨r, cap, cur, rfl, hb, rest⟩
  · exact .inl hn
  · exact .inr ⟨r, cap, cur, rfl, Nat.le_trans hB hb, rest⟩
/-- Its data lie in blocks of F. -/
def DatIn (w : World) (F : Nat → Prop) (ps : List (Vn × Value)) : Prop := ∀ p ∈ ps, BSl w F p.2 p.1.d
theorem DatIn.kept {S F : Nat → Prop} {w w' : World} {ps : List (Vn × Value)} (h : DatIn w F ps) (hk : Kept S w w') (hs : ∀ k, F k → ¬ S k) : DatIn w' F ps := fun p hp => (h p hp).kept hk hs
theorem DatIn.mono {F G : Nat → Prop} {w : World} {ps : List (Vn × Value)} (h : DatIn w F ps) (hG : ∀ k, k < w.heap.size → F k → G k) : DatIn w G ps := fun p hp => (h p hp).mono hG
theorem VOw.vs {e : TypeId} {B : Nat} {w : World} {v : Value} {ps : List (Vn × Value)} {F : Nat → Prop} (h : VOw e B w v ps) (hF : ∀ k, v.ownBlock = some k → F k) (hn : DatIn w F ps) : VsAt w F v (ps.map Prod.fst) := by
  have hl : (ps.map Prod.fst).length = ps.length := List.length_map _
  rcases h.2 with ⟨rfl, h0⟩ | ⟨r, cap, cur, rfl, hb, hr, hc, hm, _⟩
  · obtain rfl : ps = [] := List.eq_nil_of_length_eq_zero h0
    exact VsAt.nil w F
  · refine ⟨_, cap, by rw [hl], by rw [hl]; exact hc, hm, (fun h => by cases h), fun _ => ⟨r, 0, rfl, hF r rfl, heap_lt hr, fun j hj => ?_⟩⟩
    rw [hl] at hj
    have hx : ∀ i, i < 3 → ∀ u, [Value.int .u64 (ps[j]).1.r, .int .u64 (ps[j]).1.q, (ps[j]).2][i]? = some u → w.cell? ⟨r, 0 + j * 3 + i, none⟩ = some u := fun i hi u hu => by
      have := h.cells (g := r) rfl (j * 3 + i) u (by rw [vcl_at ps j i hj hi]; exact hu)
      rw [addr_add15] at this
      rw [show 0 + j * 3 + i = 0 + (j * 3 + i) by omega]
      exact this
    have hnj : nthV (ps.map Prod.fst) j = (ps[j]).1 := by rw [nthV_at (by rw [hl]; exact hj)]; simp
    rw [hnj]
    exact ⟨(ps[j]).2, hx 0 (by omega) _ rfl, hx 1 (by omega) _ rfl, hx 2 (by omega) _ rfl, hn _ (List.getElem_mem hj)⟩
theorem vcl_one {w : World} {F : Nat → Prop} {ps : List (Vn × Value)} (h : DatIn w F ps) : ∀ u ∈ vcl ps, u.oneCell' = true := by
  intro u hu
  unfold vcl at hu
  obtain ⟨p, hp, hz⟩ := List.mem_flatMap.1 hu
  simp only [List.mem_cons, List.not_mem_nil, or_false] at hz
  rcases hz with rfl | rfl | rfl
  · rfl
  · rfl
  · obtain ⟨_, _, he, _⟩ := h p hp; rw [he]; rfl
/-- The data's slices of versions that are read. -/
theorem VsAt.ps {w : World} {F : Nat → Prop} {a : Option Addr} {n c : Nat} {l : List Vn} (h : VsAt w F (.slice a n c) l) :
    ∃ ps : List (Vn × Value), ps.map Prod.fst = l ∧ DatIn w F ps ∧ ∀ ad, a = some ad → ∀ m u, (vcl ps)[m]? = some u → w.cell? (ad.add m) = some u := by
  have key : ∀ j, ∃ u, j < l.length → BSl w F u (nthV l j).d ∧ ∀ ad, a = some ad → ∀ i, i < 3 → ∀ x, [Value.int .u64 (nthV l j).r, .int .u64 (nthV l j).q, u][i]? = some x → w.cell? (ad.add (j * 3 + i)) = some x := by
    intro j
    by_cases hj : j < l.length
    · obtain ⟨b, o, ha, _, _, u, e0, e1, e2, hd⟩ := h.at_ hj
      refine ⟨u, fun _ => ⟨hd, fun ad had i hi x hx => ?_⟩⟩
      rw [ha] at had
      injection had with had
      subst had
      rw [addr_add15]
      match i, hi with
      | 0, _ => simp at hx; subst hx; rw [Nat.add_zero]; exact e0
      | 1, _ => simp at hx; subst hx; rw [← Nat.add_assoc]; exact e1
      | 2, _ => simp at hx; subst hx; rw [← Nat.add_assoc]; exact e2
    · exact ⟨undef, fun h => absurd h hj⟩
  let us : Nat → Value := fun j => Classical.choose (key j)
  have hus : ∀ j, j < l.length → BSl w F (us j) (nthV l j).d ∧ ∀ ad, a = some ad → ∀ i, i < 3 → ∀ x, [Value.int .u64 (nthV l j).r, .int .u64 (nthV l j).q, us j][i]? = some x → w.cell? (ad.add (j * 3 + i)) = some x := fun j hj => Classical.choose_spec (key j) hj
  have hlen : ((List.range l.length).map fun j => (nthV l j, us j)).length = l.length := by simp
  refine ⟨(List.range l.length).map fun j => (nthV l j, us j), ?_, ?_, ?_⟩
  · refine List.ext_getElem (by simp) (fun j h1 h2 => ?_)
    simp [nthV_at h2]
  · intro p hp
    obtain ⟨j, hj, rfl⟩ := List.mem_map.1 hp
    rw [List.mem_range] at hj
    exact (hus j hj).1
  · intro ad had m u hu
    have hm : m < l.length * 3 := by
      rcases Nat.lt_or_ge m (l.length * 3) with h | h
      · exact h
      · rw [List.getElem?_eq_none (by rw [vcl_len, hlen]; exact h)] at hu; cases hu
    have hd : m = m / 3 * 3 + m % 3 := by omega
    rw [hd, vcl_at _ (m / 3) (m % 3) (by rw [hlen]; omega) (Nat.mod_lt _ (by decide))] at hu
    simp only [List.getElem_map, List.getElem_range] at hu
    have := (hus (m / 3) (by omega)).2 ad had (m % 3) (Nat.mod_lt _ (by decide)) u hu
    rw [← hd] at this
    exact this
section
variable {P : Program} (t e : TypeId) (i0 : TypeInfo) (ht : P.underlying t = some (.slice e)) (hi : P.info? e = some i0) (hz0 : i0.zero = some (.agg #[.int .u64 0, .int .u64 0, .slice none 0 0])) (hz1 : i0.size = 3) (hz2 : i0.bytes = 40)
include ht hi hz0 hz1 hz2
/-- append of one version that lies in a block to a row of the call's own. -/
theorem run_append_v1 (w : World) (base : Nat) (ty : TypeId) (v : Value) (ps : List (Vn × Value)) (hown : VOw e base w v ps) (b : Nat) (c : Vn) (u : Value) (t' : TypeId) (hb : w.heap[b]? = some (.cells #[.int .u64 c.r, .int .u64 c.q, u] t' (0, 0))) (hu : u.oneCell' = true) (hl : ps.length ≤ 100000) (hbase : base ≤ w.heap.size) :
    ∃ a' c' w', (Builtin.append_ #[t, t] ty #[v, .slice (some ⟨b, 0, none⟩) 1 1]).run P w = .ok (.slice a' (ps.length + 1) c') w' ∧ VOw e base w' (.slice a' (ps.length + 1) c') (ps ++ [(c, u)]) ∧ w.grownBy w' v.ownBlock ∧ ((Value.slice a' (ps.length + 1) c').ownBlock = v.ownBlock ∨ (Value.slice a' (ps.length + 1) c').ownBlock = some w.heap.size) := by
  obtain ⟨v', w', hrun, h2, h3, _, h5⟩ := run_append_own_at (P := P) w base t ty e i0 _ 3 40 ht hi hz0 hz1 hz2 rfl (by decide) v ps.length _ hown ⟨b, 0, none⟩ 1 1 (vcl [(c, u)]) (by simp [vcl]) (World.news_of_block hb) (by
    intro x hx
    simp only [vcl, List.flatMap_cons, List.flatMap_nil, List.append_nil, List.mem_cons, List.not_mem_nil, or_false] at hx
    rcases hx with rfl | rfl | rfl
    · rfl
    · rfl
    · exact hu) (by unfold maxLen; omega) (by omega) hbase
  have h2' : VOw e base w' v' (ps ++ [(c, u)]) := by
    unfold VOw
    rw [vcl_app, List.length_append]
    exact h2
  obtain ⟨a', c', ee⟩ := h2'.form
  rw [List.length_append] at ee
  have ee : v' = .slice a' (ps.length + 1) c' := ee
  subst ee
  exact ⟨a', c', w', hrun, h2', h3, h5⟩
theorem wpList_append_v1 (w : World) {ops : Array Oper} {rest : List Oper} {o : Oper} {a : Act} {Q : Exit → Act → World → Prop} (hgd : o.guard = none) (s x : Operand)
    (ho : o.op = .call { callee := .builtin .append, args := #[s, x], argTypes := #[t, t] })
    (base : Nat) (v : Value) (ps : List (Vn × Value)) (hs : a.eval s = v) (hown : VOw e base w v ps) (b : Nat) (c : Vn) (u : Value) (t' : TypeId) (hx : a.eval x = .slice (some ⟨b, 0, none⟩) 1 1) (hb : w.heap[b]? = some (.cells #[.int .u64 c.r, .int .u64 c.q, u] t' (0, 0))) (hu : u.oneCell' = true) (hl : ps.length ≤ 100000) (hbase : base ≤ w.heap.size) (N : Nat) (hN : ps.length + 1 = N)
    (h : ∀ a' c' w', VOw e base w' (.slice a' N c') (ps ++ [(c, u)]) → w.grownBy w' v.ownBlock → ((Value.slice a' N c').ownBlock = v.ownBlock ∨ (Value.slice a' N c').ownBlock = some w.heap.size) → wpList P ops Q rest (a.put o.dst (.slice a' N c')) w') : wpList P ops Q (o :: rest) a w :=
  wpList_plain hgd fun K hK => by
    subst hN
    obtain ⟨a', c', w', hrun, h2, h3, h4⟩ := run_append_v1 t e i0 ht hi hz0 hz1 hz2 w base o.type v ps hown b c u t' hb hu hl hbase
    unfold Oper.wp execOp
    simp only [ho, resolve, invoke, builtin, Sem.run_bind, Sem.run_pure, Result.andThen_ok, List.map_toArray, List.map_cons, List.map_nil, hs, hx, hrun]
    exact hK _ _ (h a' c' w' h2 h3 h4)
/-- append of versions that a slice has to an empty row. -/
theorem run_append_vs0 (w : World) (base : Nat) (ty : TypeId) (x : Value) (l : List Vn) (F : Nat → Prop) (hx : VsAt w F x l) (hl : l.length ≤ 100000) (hbase : base ≤ w.heap.size) :
    ∃ ps a' c' w', (Builtin.append_ #[t, t] ty #[.slice none 0 0, x]).run P w = .ok (.slice a' l.length c') w' ∧ ps.map Prod.fst = l ∧ DatIn w F ps ∧ VOw e base w' (.slice a' l.length c') ps ∧ w.grownBy w' none ∧ ((Value.slice a' l.length c').ownBlock = none ∨ (Value.slice a' l.length c').ownBlock = some w.heap.size) := by
  obtain ⟨xa, xc, rfl⟩ := hx.form
  obtain ⟨ps, hps, hd, hcell⟩ := hx.ps
  have hlen : ps.length = l.length := by rw [← hps, List.length_map]
  obtain ⟨_, hlc, _, hnone⟩ := hx.len
  cases xa with
  | none =>
    obtain rfl := hnone rfl
    obtain rfl : l = [] := List.eq_nil_of_length_eq_zero (by omega)
    obtain rfl : ps = [] := List.eq_nil_of_length_eq_zero hlen
    exact ⟨[], none, 0, w, run_append_owned_none w base t ty e i0 3 ht hi _ 0 [] (World.ownsRow_nil w base e 3), rfl, hd, VOw.nil _ _ _, ⟨rfl, rfl, rfl, Nat.le_refl _, fun _ _ _ => rfl⟩, .inl rfl⟩
  | some ad =>
    obtain ⟨v', w', hrun, h2, h3, _, h5⟩ := run_append_own_at (P := P) w base t ty e i0 _ 3 40 ht hi hz0 hz1 hz2 rfl (by decide) (.slice none 0 0) 0 [] (World.ownsRow_nil w base e 3) ad l.length xc (vcl ps) (by rw [vcl_len, hlen]) (hcell ad rfl) (vcl_one hd) (by unfold maxLen; omega) (by omega) hbase
    have h2' : VOw e base w' v' ps := by
      unfold VOw
      rw [hlen]
      simpa using h2
    obtain ⟨a', c', ee⟩ := h2'.form
    rw [hlen] at ee
    subst ee
    exact ⟨ps, a', c', w', hrun, hps, hd, h2', h3, h5⟩
end
end Go.Proofs.YtpdkmalfojeghaaGreatDoor
