/-
  Versions of a block: plain lists. Versions in memory: one by value, in three cells, a slice of them, a row of the call's own; append. Package vers: a block in memory; all, lastOf, copyOf; the chapter's Last. Package vers: Len, Last, Dirty, upto, Clean. Package vers: upto (a binary search over a function literal), Clean. Package vers: Pick. Package vers: List. slices.Delete over a row of versions; package vers: Trim.
-/
import Derived.Test.YtabmipjpgofgpaaGreatDoorBase
import Derived.Lib.Hide
import Derived.Test.YtabmipjpgofgpaaGreatDoorProg
import Derived.Test.YtabmipjpgofgpaaGreatDoorRef
import Derived.WalkSpells
import Derived.WalkLawsBesides
import Derived.BigRegion
import Derived.Deep.QuietTactic
import Derived.BigQuiet
import Derived.Deep.RegionHeld3
import Derived.Deep.RegionLaw
import Derived.Deep.DeepMust
import Derived.Outline
import Derived.KernelRfl
import Derived.Deep.Cut
import Derived.StillTailTactics
import Derived.Laws.EntriesVeiled
import Derived.LoopTactic
import Derived.Lib.SliceRun
import Derived.ArgAppend
namespace Go.Proofs.YtabmipjpgofgpaaGreatDoor
open Go.RowKit
set_option linter.unusedVariables false

/-- A version: its Ver, its Seq, its Data. -/
structure Vn where
  r : Int
  q : Int
  d : List Int
def vn0 : Vn := ⟨0, 0, []⟩
def nthV (l : List Vn) (j : Nat) : Vn := l.getD j vn0
def lastV (l : List Vn) : Vn := nthV l (l.length - 1)
theorem nthV_at {l : List Vn} {j : Nat} (h : j < l.length) : nthV l j = l[j] := by
  unfold nthV
  rw [List.getD_eq_getElem?_getD, List.getElem?_eq_getElem h]
  rfl
theorem nthV_out {l : List Vn} {j : Nat} (h : l.length ≤ j) : nthV l j = vn0 := by
  unfold nthV
  rw [List.getD_eq_getElem?_getD, List.getElem?_eq_none h]
  rfl
theorem nthV_take {l : List Vn} {k j : Nat} (h : j < k) : nthV (l.take k) j = nthV l j := by
  unfold nthV
  rw [List.getD_eq_getElem?_getD, List.getD_eq_getElem?_getD, List.getElem?_take, if_pos h]
theorem nthV_drop (l : List Vn) (k j : Nat) : nthV (l.drop k) j = nthV l (k + j) := by
  unfold nthV
  rw [List.getD_eq_getElem?_getD, List.getD_eq_getElem?_getD, List.getElem?_drop]
theorem lastV_nil : lastV [] = vn0 := rfl
theorem lastV_app (l : List Vn) (x : Vn) : lastV (l ++ [x]) = x := by
  unfold lastV nthV
  rw [List.getD_eq_getElem?_getD]
  simp
/-- A version's numbers. -/
def FitV (x : Vn) : Prop := 0 ≤ x.r ∧ x.r ≤ 18446744073709551615 ∧ 0 ≤ x.q ∧ x.q ≤ 18446744073709551615
/-- Seqs rise; each number is at least 1 and fits; no data are longer than MaxValue. -/
structure Asc (l : List Vn) : Prop where
  up : l.Pairwise (fun a b => a.q < b.q)
  ok : ∀ x ∈ l, 0 < x.r ∧ x.r ≤ 18446744073709551615 ∧ 0 < x.q ∧ x.q ≤ 18446744073709551615 ∧ x.d.length ≤ 2048
theorem Asc.nil : Asc [] := ⟨List.Pairwise.nil, fun x h => by cases h⟩
theorem Asc.drop {l : List Vn} (h : Asc l) (n : Nat) : Asc (l.drop n) := ⟨h.up.sublist (List.drop_sublist n l), fun x hx => h.ok x (List.mem_of_mem_drop hx)⟩
theorem Asc.take {l : List Vn} (h : Asc l) (n : Nat) : Asc (l.take n) := ⟨h.up.sublist (List.take_sublist n l), fun x hx => h.ok x (List.mem_of_mem_take hx)⟩
theorem Asc.at_ {l : List Vn} (h : Asc l) {j : Nat} (hj : j < l.length) : 0 < (nthV l j).r ∧ (nthV l j).r ≤ 18446744073709551615 ∧ 0 < (nthV l j).q ∧ (nthV l j).q ≤ 18446744073709551615 ∧ (nthV l j).d.length ≤ 2048 := by
  rw [nthV_at hj]
  exact h.ok _ (List.getElem_mem hj)
theorem Asc.lt {l : List Vn} (h : Asc l) {i j : Nat} (hij : i < j) (hj : j < l.length) : (nthV l i).q < (nthV l j).q := by
  rw [nthV_at hj, nthV_at (by omega : i < l.length)]
  exact List.pairwise_iff_getElem.1 h.up i j (by omega) hj hij
theorem Asc.fit {l : List Vn} (h : Asc l) (j : Nat) : 0 ≤ (nthV l j).r ∧ (nthV l j).r ≤ 18446744073709551615 ∧ 0 ≤ (nthV l j).q ∧ (nthV l j).q ≤ 18446744073709551615 ∧ (nthV l j).d.length ≤ 2048 := by
  by_cases hj : j < l.length
  · have := h.at_ hj; omega
  · rw [nthV_out (by omega)]; simp [vn0]
/-- How many have a Seq that is not above done. -/
def cnt (l : List Vn) (done : Int) : Nat := (l.filter fun x => decide (x.q ≤ done)).length
theorem cnt_le (l : List Vn) (done : Int) : cnt l done ≤ l.length := List.length_filter_le _ _
theorem cnt_spec {l : List Vn} (h : Asc l) (done : Int) (i : Nat) (hi : i < l.length) : (nthV l i).q ≤ done ↔ i < cnt l done := by
  induction l generalizing i with
  | nil => exact absurd hi (by simp)
  | cons x l ih =>
    obtain ⟨h1, h2⟩ := List.pairwise_cons.1 h.up
    have ht : Asc l := ⟨h2, fun y hy => h.ok y (by simp [hy])⟩
    have hc : cnt (x :: l) done = if x.q ≤ done then cnt l done + 1 else cnt l done := by
      unfold cnt
      rw [List.filter_cons]
      by_cases e : x.q ≤ done
      · rw [if_pos (by simpa using e), if_pos e]; rfl
      · rw [if_neg (by simpa using e), if_neg e]
    cases i with
    | zero =>
      show x.q ≤ done ↔ _
      rw [hc]
      by_cases e : x.q ≤ done
      · rw [if_pos e]; simp [e]
      · rw [if_neg e]
        have : cnt l done = 0 := by
          unfold cnt
          rw [List.length_eq_zero_iff, List.filter_eq_nil_iff]
          intro y hy
          have := h1 y hy
          simp
          omega
        rw [this]
        simp [e]
    | succ i =>
      have hi' : i < l.length := by simpa using hi
      have : nthV (x :: l) (i + 1) = nthV l i := rfl
      rw [this, ih ht i hi', hc]
      by_cases e : x.q ≤ done
      · rw [if_pos e]; omega
      · rw [if_neg e]
        have hy : x.q < (nthV l i).q := by
          rw [nthV_at hi']
          exact h1 _ (List.getElem_mem hi')
        have := (ih ht i hi').2
        constructor
        · intro hh; have := this hh; omega
        · intro hh; have := this (by omega); omega
theorem cnt_of {l : List Vn} (h : Asc l) {done : Int} {n : Nat} (hn : n ≤ l.length) (h1 : ∀ i, i < n → (nthV l i).q ≤ done) (h2 : ∀ i, n ≤ i → i < l.length → done < (nthV l i).q) : cnt l done = n := by
  have hle := cnt_le l done
  rcases Nat.lt_trichotomy (cnt l done) n with hlt | heq | hgt
  · have := (cnt_spec h done (cnt l done) (by omega)).1 (h1 _ hlt)
    omega
  · exact heq
  · have := (cnt_spec h done n (by omega)).2 hgt
    have := h2 n (Nat.le_refl _) (by omega)
    omega
def cleanV (l : List Vn) (done : Int) : Vn := if cnt l done = 0 then vn0 else nthV l (cnt l done - 1)
theorem lastV_take {l : List Vn} {done : Int} : lastV (l.take (cnt l done)) = cleanV l done := by
  have hle := cnt_le l done
  unfold lastV cleanV
  rw [List.length_take, Nat.min_eq_left hle]
  by_cases h0 : cnt l done = 0
  · rw [if_pos h0, h0]; rfl
  · rw [if_neg h0, nthV_take (by omega)]
theorem clean_none (done : Int) : cleanV [] done = vn0 := rfl
theorem clean_step {l : List Vn} (h : Asc l) (done : Int) {k : Nat} (hk : k < l.length) : cleanV (l.take (k + 1)) done = if (nthV l k).q ≤ done then nthV l k else cleanV (l.take k) done := by
  have e : l.take (k + 1) = l.take k ++ [nthV l k] := by rw [List.take_succ_eq_append_getElem hk, nthV_at hk]
  have hc : cnt (l.take (k + 1)) done = cnt (l.take k) done + if (nthV l k).q ≤ done then 1 else 0 := by
    unfold cnt
    rw [e, List.filter_append, List.length_append]
    congr 1
    by_cases hq : (nthV l k).q ≤ done
    · rw [if_pos hq]; simp [hq]
    · rw [if_neg hq]; simp [hq]
  by_cases hq : (nthV l k).q ≤ done
  · rw [if_pos hq] at hc ⊢
    have hall : cnt (l.take k) done = k := by
      refine cnt_of (h.take k) (by rw [List.length_take]; omega) (fun i hi => ?_) (fun i hi1 hi2 => ?_)
      · rw [nthV_take hi]
        have := h.lt hi hk
        omega
      · rw [List.length_take] at hi2; omega
    unfold cleanV
    rw [hc, hall, if_neg (by omega), Nat.add_sub_cancel, nthV_take (by omega)]
  · rw [if_neg hq] at hc ⊢
    replace hc : cnt (l.take (k + 1)) done = cnt (l.take k) done := by simpa using hc
    have hle := cnt_le (l.take k) done
    rw [List.length_take] at hle
    unfold cleanV
    rw [hc]
    by_cases h0 : cnt (l.take k) done = 0
    · rw [if_pos h0, if_pos h0]
    · rw [if_neg h0, if_neg h0, nthV_take (by omega), nthV_take (by omega)]
theorem Asc.clean {l : List Vn} (h : Asc l) (done : Int) : 0 ≤ (cleanV l done).r ∧ (cleanV l done).r ≤ 18446744073709551615 ∧ 0 ≤ (cleanV l done).q ∧ (cleanV l done).q ≤ 18446744073709551615 ∧ (cleanV l done).d.length ≤ 2048 := by
  unfold cleanV
  split
  · simp [vn0]
  · exact h.fit _
/-- What Dirty tells. -/
def dirtyB (l : List Vn) (done : Int) : Bool := decide (done < (lastV l).q)
/-- What Pick tells. -/
def findV (l : List Vn) (ver : Int) : Option Vn := l.find? (fun x => x.r == ver)
def pickV (l : List Vn) (ver done : Int) : Vn := (findV l ver).getD (if ver < (cleanV l done).r then cleanV l done else vn0)
theorem findV_skip {l : List Vn} {ver : Int} {k : Nat} (h : ∀ j, j < k → (nthV l j).r ≠ ver) : findV l ver = findV (l.drop k) ver := by
  induction k generalizing l with
  | zero => rfl
  | succ k ih =>
    cases l with
    | nil => rfl
    | cons x l =>
      have h0 : x.r ≠ ver := h 0 (by omega)
      unfold findV
      rw [List.find?_cons, List.drop_succ_cons]
      rw [show (x.r == ver) = false by simpa using h0]
      exact ih (fun j hj => h (j + 1) (by omega))
theorem findV_hit {l : List Vn} {ver : Int} {k : Nat} (hk : k < l.length) (h : ∀ j, j < k → (nthV l j).r ≠ ver) (he : (nthV l k).r = ver) : findV l ver = some (nthV l k) := by
  rw [findV_skip h, List.drop_eq_getElem_cons hk, ← nthV_at hk]
  unfold findV
  rw [List.find?_cons, show ((nthV l k).r == ver) = true by simpa using he]
theorem findV_none {l : List Vn} {ver : Int} (h : ∀ j, j < l.length → (nthV l j).r ≠ ver) : findV l ver = none := by
  rw [findV_skip (k := l.length) h, List.drop_eq_nil_of_le (Nat.le_refl _)]
  rfl
/-- What Trim leaves, and how many it takes. -/
def trimN (l : List Vn) (done : Int) : Nat := cnt l done - 1
def trimV (l : List Vn) (done : Int) : List Vn := l.drop (trimN l done)
def gesV (l : List Vn) (q : Int) : List Vn := l.filter (fun x => decide (q ≤ x.q))
theorem gesV_take {l : List Vn} {q : Int} {k : Nat} (h : k < l.length) : gesV (l.take (k + 1)) q = gesV (l.take k) q ++ if q ≤ (nthV l k).q then [nthV l k] else [] := by
  unfold gesV
  rw [List.take_succ_eq_append_getElem h, List.filter_append, nthV_at h]
  congr 1
  by_cases hf : q ≤ l[k].q
  · rw [if_pos hf]; simp [hf]
  · rw [if_neg hf]; simp [hf]
theorem gesV_trim {l : List Vn} (h : Asc l) (done : Int) : gesV l (cleanV l done).q = trimV l done := by
  have hle := cnt_le l done
  unfold trimV trimN
  by_cases h0 : cnt l done = 0
  · rw [h0]
    unfold gesV cleanV
    rw [if_pos h0]
    simp only [Nat.zero_sub, List.drop_zero]
    rw [List.filter_eq_self]
    intro x hx
    have := (h.ok x hx).2.2.1
    rw [decide_eq_true_eq]
    show (0 : Int) ≤ x.q
    omega
  · obtain ⟨m, hm⟩ : ∃ m, cnt l done = m + 1 := ⟨cnt l done - 1, by omega⟩
    rw [hm, Nat.add_sub_cancel]
    have hc : cleanV l done = nthV l m := by unfold cleanV; rw [if_neg h0, hm, Nat.add_sub_cancel]
    rw [hc]
    obtain ⟨cq, hcq⟩ : ∃ c, c = (nthV l m).q := ⟨_, rfl⟩
    rw [← hcq]
    conv => lhs; rw [← List.take_append_drop m l]
    unfold gesV
    rw [List.filter_append, List.filter_eq_nil_iff.2, List.nil_append, List.filter_eq_self.2]
    · intro x hx
      obtain ⟨j, hj, rfl⟩ := List.getElem_of_mem hx
      rw [List.length_drop] at hj
      rw [List.getElem_drop]
      simp only [decide_eq_true_eq]
      rw [← nthV_at (by omega)]
      rcases Nat.eq_zero_or_pos j with e | e
      · subst e; rw [hcq]; exact Int.le_refl _
      · have := h.lt (i := m) (j := m + j) (by omega) (by omega); omega
    · intro x hx
      obtain ⟨j, hj, rfl⟩ := List.getElem_of_mem hx
      rw [List.length_take] at hj
      rw [List.getElem_take]
      simp only [decide_eq_true_eq]
      rw [← nthV_at (by omega)]
      have := h.lt (i := j) (j := m) (by omega) (by omega)
      omega
theorem trimV_len (l : List Vn) (done : Int) : (trimV l done).length = l.length - trimN l done := List.length_drop
theorem trimN_le (l : List Vn) (done : Int) : trimN l done ≤ l.length := by have := cnt_le l done; unfold trimN; omega
/-- What Put answers, and leaves. -/
def putXV (l : List Vn) (v : Vn) : Int := if 2048 < v.d.length then 6 else if v.r = 0 ∨ v.q = 0 then 1 else if 0 < l.length ∧ ¬ (v.r = (lastV l).r + 1 ∧ (lastV l).q < v.q) then 12 else 0
def putLV (l : List Vn) (v : Vn) : List Vn := if putXV l v = 0 then l ++ [v] else l
theorem Asc.last {l : List Vn} (h : Asc l) {x : Vn} (hx : x ∈ l) : x.q ≤ (lastV l).q := by
  obtain ⟨j, hj, rfl⟩ := List.getElem_of_mem hx
  rw [← nthV_at hj]
  unfold lastV
  rcases Nat.lt_or_ge j (l.length - 1) with e | e
  · have := h.lt e (by omega); omega
  · obtain rfl : j = l.length - 1 := by omega
    exact Int.le_refl _
theorem Asc.put {l : List Vn} (h : Asc l) {v : Vn} (hf : FitV v) : Asc (putLV l v) := by
  unfold putLV
  by_cases h0 : putXV l v = 0
  · rw [if_pos h0]
    unfold putXV at h0
    split at h0
    · cases h0
    · split at h0
      · cases h0
      · split at h0
        · cases h0
        · rename_i hl hz hn
          unfold FitV at hf
          refine ⟨List.pairwise_append.2 ⟨h.up, List.pairwise_singleton _ _, fun a ha b hb => ?_⟩, fun x hx => ?_⟩
          · obtain rfl : b = v := by simpa using hb
            have := h.last ha
            have : 0 < l.length := List.length_pos_of_mem ha
            omega
          · rcases List.mem_append.1 hx with hx | hx
            · exact h.ok x hx
            · obtain rfl : x = v := by simpa using hx
              omega
  · rw [if_neg h0]
    exact h
theorem putLV_len (l : List Vn) (v : Vn) : (putLV l v).length ≤ l.length + 1 := by
  unfold putLV
  split
  · simp
  · omega
end Go.Proofs.YtabmipjpgofgpaaGreatDoor
namespace Go.Proofs.YtabmipjpgofgpaaGreatDoor
open Go.RowKit
set_option linter.unusedVariables false

theorem addr_add15 (b o j : Nat) : (⟨b, o, none⟩ : Addr).add j = ⟨b, o + j, none⟩ := by unfold Addr.add; split <;> simp_all
theorem blkV_frozen {w : World} {g : Nat} {cs : Array Value} {t : TypeId} (h : w.heap[g]? = some (.cells cs t (0, 0))) (o : Nat) : w.frozen? ⟨g, o, none⟩ = false := by simp [World.frozen?, h]
theorem blkV_set {w : World} {g : Nat} {cs : Array Value} {t : TypeId} {fr : Nat × Nat} (h : w.heap[g]? = some (.cells cs t fr)) (i : Nat) (u : Value) :
    (w.setCell ⟨g, i, none⟩ u).heap[g]? = some (.cells (cs.setIfInBounds i u) t fr) := by simp [World.setCell, Array.getElem?_modify, h]
theorem blkV_set_other {w : World} {g k : Nat} {o : Obj} (h : w.heap[g]? = some o) (i : Nat) (u : Value) (hk : k ≠ g) :
    (w.setCell ⟨k, i, none⟩ u).heap[g]? = some o := by simp [World.setCell, Array.getElem?_modify, h, hk]
theorem blkV_alloc {w : World} {g : Nat} {o : Obj} (h : w.heap[g]? = some o) (x : Obj) : (w.alloc x).heap[g]? = some o := (heap_alloc_old w x (heap_lt h)).trans h
theorem cells3v {w : World} {b : Nat} {x y z : Value} {t : TypeId} (h : w.heap[b]? = some (.cells #[x, y, z] t (0, 0))) :
    w.cell? ⟨b, 0, none⟩ = some x ∧ w.cell? ⟨b, 1, none⟩ = some y ∧ w.cell? ⟨b, 2, none⟩ = some z :=
  ⟨cell_of_row _ _ 0 _ _ _ h, cell_of_row _ _ 1 _ _ _ h, cell_of_row _ _ 2 _ _ _ h⟩
/-- A version in a block's three cells, stored one by one. -/
def three15 (w : World) (b o : Nat) (x y z : Value) : World := ((w.setCell ⟨b, o, none⟩ x).setCell ⟨b, o + 1, none⟩ y).setCell ⟨b, o + 2, none⟩ z
theorem three15_at {w : World} {b : Nat} {a b' c : Value} {t : TypeId} (h : w.heap[b]? = some (.cells #[a, b', c] t (0, 0))) (x y z : Value) : (three15 w b 0 x y z).heap[b]? = some (.cells #[x, y, z] t (0, 0)) :=
  blkV_set (blkV_set (blkV_set h 0 _) 1 _) 2 _
theorem Kept.three15 {S : Nat → Prop} {a w : World} (h : Kept S a w) {b : Nat} (hb : S b ∨ a.heap.size ≤ b) (o : Nat) (x y z : Value) : Kept S a (Go.Proofs.YtabmipjpgofgpaaGreatDoor.three15 w b o x y z) :=
  ((h.setCell (p := ⟨b, o, none⟩) hb _).setCell (p := ⟨b, o + 1, none⟩) hb _).setCell (p := ⟨b, o + 2, none⟩) hb _
/-- A version by value, its data in blocks of F. -/
def VnV (w : World) (F : Nat → Prop) (v : Value) (x : Vn) : Prop := ∃ u, v = .agg #[.int .u64 x.r, .int .u64 x.q, u] ∧ BSl w F u x.d
/-- One whose data are a row of the call's own. -/
def VnO (w : World) (F : Nat → Prop) (v : Value) (x : Vn) : Prop := ∃ u, v = .agg #[.int .u64 x.r, .int .u64 x.q, u] ∧ Own w F u x.d
theorem VnV.kept {S F : Nat → Prop} {w w' : World} {v : Value} {x : Vn} (h : VnV w F v x) (hk : Kept S w w') (hs : ∀ k, F k → ¬ S k) : VnV w' F v x := by
  obtain ⟨u, h1, h2⟩ := h
  exact ⟨u, h1, h2.kept hk hs⟩
theorem VnV.no {F : Nat → Prop} {w w' : World} {v : Value} {x : Vn} (h : VnV w F v x) (hk : Kept NoB w w') : VnV w' F v x := h.kept hk (fun _ _ h => h)
theorem VnV.mono {F G : Nat → Prop} {w : World} {v : Value} {x : Vn} (h : VnV w F v x) (hG : ∀ k, k < w.heap.size → F k → G k) : VnV w G v x := by
  obtain ⟨u, h1, h2⟩ := h
  exact ⟨u, h1, h2.mono hG⟩
theorem VnV.zero (w : World) (F : Nat → Prop) : VnV w F (.agg #[.int .u64 0, .int .u64 0, .slice none 0 0]) vn0 := ⟨_, rfl, BSl.nil _ _⟩
theorem VnO.v {w : World} {F : Nat → Prop} {v : Value} {x : Vn} (h : VnO w F v x) : VnV w F v x := by
  obtain ⟨u, h1, h2⟩ := h
  exact ⟨u, h1, h2.bsl⟩
theorem VnO.no {F : Nat → Prop} {w w' : World} {v : Value} {x : Vn} (h : VnO w F v x) (hk : Kept NoB w w') : VnO w' F v x := by
  obtain ⟨u, h1, h2⟩ := h
  exact ⟨u, h1, h2.kept hk (fun _ _ h => h)⟩
theorem VnO.mono {F G : Nat → Prop} {w : World} {v : Value} {x : Vn} (h : VnO w F v x) (hG : ∀ k, k < w.heap.size → F k → G k) : VnO w G v x := by
  obtain ⟨u, h1, h2⟩ := h
  exact ⟨u, h1, h2.mono hG⟩
theorem VnO.zero (w : World) (F : Nat → Prop) : VnO w F (.agg #[.int .u64 0, .int .u64 0, .slice none 0 0]) vn0 := ⟨_, rfl, Own.nil _ _⟩
/-- Three cells that are a version. -/
def VnAt (w : World) (F : Nat → Prop) (b o : Nat) (x : Vn) : Prop :=
  ∃ u, w.cell? ⟨b, o, none⟩ = some (.int .u64 x.r) ∧ w.cell? ⟨b, o + 1, none⟩ = some (.int .u64 x.q) ∧ w.cell? ⟨b, o + 2, none⟩ = some u ∧ BSl w F u x.d
theorem VnAt.kept {S F : Nat → Prop} {w w' : World} {b o : Nat} {x : Vn} (h : VnAt w F b o x) (hk : Kept S w w') (hb : ¬ S b) (hs : ∀ k, F k → ¬ S k) : VnAt w' F b o x := by
  obtain ⟨u, h1, h2, h3, h4⟩ := h
  exact ⟨u, hk.cell (p := ⟨b, o, none⟩) hb h1, hk.cell (p := ⟨b, o + 1, none⟩) hb h2, hk.cell (p := ⟨b, o + 2, none⟩) hb h3, h4.kept hk hs⟩
theorem VnAt.mono {F G : Nat → Prop} {w : World} {b o : Nat} {x : Vn} (h : VnAt w F b o x) (hG : ∀ k, k < w.heap.size → F k → G k) : VnAt w G b o x := by
  obtain ⟨u, h1, h2, h3, h4⟩ := h
  exact ⟨u, h1, h2, h3, h4.mono hG⟩
/-- A slice that reads as these versions, in blocks of F. -/
def VsAt (w : World) (F : Nat → Prop) (v : Value) (l : List Vn) : Prop :=
  ∃ a c, v = .slice a l.length c ∧ l.length ≤ c ∧ c ≤ maxLen ∧ (a = none → c = 0) ∧ (0 < l.length → ∃ b o, a = some ⟨b, o, none⟩ ∧ F b ∧ b < w.heap.size ∧ ∀ j, j < l.length → VnAt w F b (o + j * 3) (nthV l j))
theorem VsAt.nil (w : World) (F : Nat → Prop) : VsAt w F (.slice none 0 0) [] := ⟨none, 0, rfl, Nat.le_refl _, Nat.zero_le _, fun _ => rfl, fun h => absurd h (by simp)⟩
theorem VsAt.form {w : World} {F : Nat → Prop} {v : Value} {l : List Vn} (h : VsAt w F v l) : ∃ a c, v = .slice a l.length c := by
  obtain ⟨a, c, h, _⟩ := h
  exact ⟨a, c, h⟩
theorem VsAt.kept {S F : Nat → Prop} {w w' : World} {v : Value} {l : List Vn} (h : VsAt w F v l) (hk : Kept S w w') (hs : ∀ k, F k → ¬ S k) : VsAt w' F v l := by
  obtain ⟨a, c, h1, h2, h3, h4, h5⟩ := h
  exact ⟨a, c, h1, h2, h3, h4, fun hp => by
    obtain ⟨b, o, e, hF, hb, hc⟩ := h5 hp
    exact ⟨b, o, e, hF, Nat.lt_of_lt_of_le hb hk.size, fun j hj => (hc j hj).kept hk (hs b hF) hs⟩⟩
theorem VsAt.no {F : Nat → Prop} {w w' : World} {v : Value} {l : List Vn} (h : VsAt w F v l) (hk : Kept NoB w w') : VsAt w' F v l := h.kept hk (fun _ _ h => h)
theorem VsAt.mono {F G : Nat → Prop} {w : World} {v : Value} {l : List Vn} (h : VsAt w F v l) (hG : ∀ k, k < w.heap.size → F k → G k) : VsAt w G v l := by
  obtain ⟨a, c, h1, h2, h3, h4, h5⟩ := h
  exact ⟨a, c, h1, h2, h3, h4, fun hp => by
    obtain ⟨b, o, e, hF, hb, hc⟩ := h5 hp
    exact ⟨b, o, e, hG b hb hF, hb, fun j hj => (hc j hj).mono hG⟩⟩
theorem VsAt.at_ {w : World} {F : Nat → Prop} {a : Option Addr} {n c : Nat} {l : List Vn} (h : VsAt w F (.slice a n c) l) {j : Nat} (hj : j < l.length) : ∃ b o, a = some ⟨b, o, none⟩ ∧ F b ∧ b < w.heap.size ∧ VnAt w F b (o + j * 3) (nthV l j) := by
  obtain ⟨a', c', e, h2, h3, h4, h5⟩ := h
  injection e with e1 e2 e3
  subst e1 e3
  obtain ⟨b, o, e, hF, hb, hc⟩ := h5 (by omega)
  exact ⟨b, o, e, hF, hb, hc j hj⟩
theorem VsAt.len {w : World} {F : Nat → Prop} {a : Option Addr} {n c : Nat} {l : List Vn} (h : VsAt w F (.slice a n c) l) : n = l.length ∧ n ≤ c ∧ c ≤ maxLen ∧ (a = none → c = 0) := by
  obtain ⟨a', c', e, h2, h3, h4, h5⟩ := h
  injection e with e1 e2 e3
  subst e1 e2 e3
  exact ⟨rfl, h2, h3, h4⟩
/-- l[:k:k]. -/
theorem VsAt.take3 {w : World} {F : Nat → Prop} {a : Option Addr} {n c : Nat} {l : List Vn} (h : VsAt w F (.slice a n c) l) {k : Nat} (hk : k ≤ l.length) : VsAt w F (.slice a k k) (l.take k) := by
  obtain ⟨a', c', e, h2, h3, h4, h5⟩ := h
  injection e with e1 e2 e3
  subst e1 e2 e3
  have e : (l.take k).length = k := by rw [List.length_take, Nat.min_eq_left hk]
  refine ⟨a, k, by rw [e], by omega, by omega, fun hn => by have := h4 hn; omega, fun hp => ?_⟩
  obtain ⟨b, o, ha, hF, hb, hc⟩ := h5 (by omega)
  refine ⟨b, o, ha, hF, hb, fun j hj => ?_⟩
  rw [nthV_take (by omega)]
  exact hc j (by omega)
/-- The cells of versions, each with its data's slice. -/
def vcl (ps : List (Vn × Value)) : List Value := ps.flatMap fun p => [.int .u64 p.1.r, .int .u64 p.1.q, p.2]
theorem vcl_app (a b : List (Vn × Value)) : vcl (a ++ b) = vcl a ++ vcl b := by simp [vcl]
theorem vcl_len (a : List (Vn × Value)) : (vcl a).length = a.length * 3 := by
  induction a with
  | nil => rfl
  | cons p a ih =>
    have : vcl (p :: a) = [.int .u64 p.1.r, .int .u64 p.1.q, p.2] ++ vcl a := rfl
    rw [this, List.length_append, ih, List.length_cons]
    simp only [List.length_cons, List.length_nil]
    omega
theorem vcl_at (a : List (Vn × Value)) (j i : Nat) (hj : j < a.length) (hi : i < 3) : (vcl a)[j * 3 + i]? = [Value.int .u64 (a[j]).1.r, .int .u64 (a[j]).1.q, (a[j]).2][i]? := by
  induction a generalizing j with
  | nil => exact absurd hj (by simp)
  | cons p a ih =>
    have e : vcl (p :: a) = [.int .u64 p.1.r, .int .u64 p.1.q, p.2] ++ vcl a := rfl
    rw [e]
    cases j with
    | zero =>
      rw [Nat.zero_mul, Nat.zero_add, List.getElem?_append_left (by simpa using hi)]
      rfl
    | succ j =>
      rw [List.getElem?_append_right (by simp only [List.length_cons, List.length_nil]; omega)]
      simp only [List.length_cons, List.length_nil, List.getElem_cons_succ]
      rw [show (j + 1) * 3 + i - (0 + 1 + 1 + 1) = j * 3 + i by omega]
      exact ih j (by simpa using hj)
theorem vcl_drop (a : List (Vn × Value)) (k : Nat) : vcl (a.drop k) = (vcl a).drop (k * 3) := by
  induction k generalizing a with
  | zero => simp
  | succ k ih =>
    cases a with
    | nil => simp [vcl]
    | cons p a =>
      have e : vcl (p :: a) = [.int .u64 p.1.r, .int .u64 p.1.q, p.2] ++ vcl a := rfl
      rw [List.drop_succ_cons, ih, e, show (k + 1) * 3 = k * 3 + 1 + 1 + 1 by omega]
      rfl
/-- A row of versions of the call's own, from block B on; e: the element type. -/
def VOw (e : TypeId) (B : Nat) (w : World) (v : Value) (ps : List (Vn × Value)) : Prop := w.ownsRow B e 3 v ps.length (vcl ps)
theorem VOw.nil (e : TypeId) (B : Nat) (w : World) : VOw e B w (.slice none 0 0) [] := World.ownsRow_nil _ _ _ _
theorem VOw.form {e : TypeId} {B : Nat} {w : World} {v : Value} {l : List (Vn × Value)} (h : VOw e B w v l) : ∃ a c, v = .slice a l.length c := by
  rcases h.2 with ⟨rfl, h0⟩ | ⟨r, cap, cur, rfl, _⟩
  · exact ⟨none, 0, by rw [h0]⟩
  · exact ⟨_, _, rfl⟩
theorem VOw.kept {S : Nat → Prop} {e : TypeId} {B : Nat} {w w' : World} {v : Value} {l : List (Vn × Value)} (h : VOw e B w v l) (hk : Kept S w w') (hs : ∀ k, v.ownBlock = some k → ¬ S k) : VOw e B w' v l := by
  refine ⟨h.1, ?_⟩
  rcases h.2 with hn | ⟨r, cap, cur, rfl, hb, hr, rest⟩
  · exact .inl hn
  · exact .inr ⟨r, cap, cur, rfl, hb, hk.heap (hs r rfl) hr, rest⟩
theorem VOw.no {e : TypeId} {B : Nat} {w w' : World} {v : Value} {l : List (Vn × Value)} (h : VOw e B w v l) (hk : Kept NoB w w') : VOw e B w' v l := h.kept hk (fun _ _ h => h)
theorem VOw.base {e : TypeId} {B : Nat} {w : World} {v : Value} {l : List (Vn × Value)} (h : VOw e B w v l) (k : Nat) (hk : v.ownBlock = some k) : B ≤ k ∧ k < w.heap.size := by
  rcases h.2 with ⟨rfl, _⟩ | ⟨r, cap, cur, rfl, hb, hr, _⟩
  · cases hk
  · injection hk with hk
    subst hk
    exact ⟨hb, heap_lt hr⟩
theorem VOw.mono {e : TypeId} {B C : Nat} {w : World} {v : Value} {l : List (Vn × Value)} (h : VOw e B w v l) (hB : C ≤ B) : VOw e C w v l := by
  refine ⟨h.1, ?_⟩
  rcases h.2 with hn | ⟨r, cap, cur, rfl, hb, rest⟩
  · exact .inl hn
  · exact .inr ⟨r, cap, cur, rfl, Nat.le_trans hB hb, rest⟩
/-- Its data lie in blocks of F. -/
def DatIn (w : World) (F : Nat → Prop) (ps : List (Vn × Value)) : Prop := ∀ p ∈ ps, BSl w F p.2 p.1.d
theorem DatIn.kept {S F : Nat → Prop} {w w' : World} {ps : List (Vn × Value)} (h : DatIn w F ps) (hk : Kept S w w') (hs : ∀ k, F k → ¬ S k) : DatIn w' F ps := fun p hp => (h p hp).kept hk hs
theorem DatIn.mono {F G : Nat → Prop} {w : World} {ps : List (Vn × Value)} (h : DatIn w F ps) (hG : ∀ k, k < w.heap.size → F k → G k) : DatIn w G ps := fun p hp => (h p hp).mono hG
theorem VOw.vs {e : TypeId} {B : Nat} {w : World} {v : Value} {ps : List (Vn × Value)} {F : Nat → Prop} (h : VOw e B w v ps) (hF : ∀ k, v.ownBlock = some k → F k) (hn : DatIn w F ps) : VsAt w F v (ps.map Prod.fst) := by
  have hl : (ps.map Prod.fst).length = ps.length := List.length_map _
  rcases h.2 with ⟨rfl, h0⟩ | ⟨r, cap, cur, rfl, hb, hr, hc, hm, _⟩
  · obtain rfl : ps = [] := List.eq_nil_of_length_eq_zero h0
    exact VsAt.nil w F
  · refine ⟨_, cap, by rw [hl], by rw [hl]; exact hc, hm, (fun h => by cases h), fun _ => ⟨r, 0, rfl, hF r rfl, heap_lt hr, fun j hj => ?_⟩⟩
    rw [hl] at hj
    have hx : ∀ i, i < 3 → ∀ u, [Value.int .u64 (ps[j]).1.r, .int .u64 (ps[j]).1.q, (ps[j]).2][i]? = some u → w.cell? ⟨r, 0 + j * 3 + i, none⟩ = some u := fun i hi u hu => by
      have := h.cells (g := r) rfl (j * 3 + i) u (by rw [vcl_at ps j i hj hi]; exact hu)
      rw [addr_add15] at this
      rw [show 0 + j * 3 + i = 0 + (j * 3 + i) by omega]
      exact this
    have hnj : nthV (ps.map Prod.fst) j = (ps[j]).1 := by rw [nthV_at (by rw [hl]; exact hj)]; simp
    rw [hnj]
    exact ⟨(ps[j]).2, hx 0 (by omega) _ rfl, hx 1 (by omega) _ rfl, hx 2 (by omega) _ rfl, hn _ (List.getElem_mem hj)⟩
theorem vcl_one {w : World} {F : Nat → Prop} {ps : List (Vn × Value)} (h : DatIn w F ps) : ∀ u ∈ vcl ps, u.oneCell' = true := by
  intro u hu
  unfold vcl at hu
  obtain ⟨p, hp, hz⟩ := List.mem_flatMap.1 hu
  simp only [List.mem_cons, List.not_mem_nil, or_false] at hz
  rcases hz with rfl | rfl | rfl
  · rfl
  · rfl
  · obtain ⟨_, _, he, _⟩ := h p hp; rw [he]; rfl
/-- The data's slices of versions that are read. -/
theorem VsAt.ps {w : World} {F : Nat → Prop} {a : Option Addr} {n c : Nat} {l : List Vn} (h : VsAt w F (.slice a n c) l) :
    ∃ ps : List (Vn × Value), ps.map Prod.fst = l ∧ DatIn w F ps ∧ ∀ ad, a = some ad → ∀ m u, (vcl ps)[m]? = some u → w.cell? (ad.add m) = some u := by
  have key : ∀ j, ∃ u, j < l.length → BSl w F u (nthV l j).d ∧ ∀ ad, a = some ad → ∀ i, i < 3 → ∀ x, [Value.int .u64 (nthV l j).r, .int .u64 (nthV l j).q, u][i]? = some x → w.cell? (ad.add (j * 3 + i)) = some x := by
    intro j
    by_cases hj : j < l.length
    · obtain ⟨b, o, ha, _, _, u, e0, e1, e2, hd⟩ := h.at_ hj
      refine ⟨u, fun _ => ⟨hd, fun ad had i hi x hx => ?_⟩⟩
      rw [ha] at had
      injection had with had
      subst had
      rw [addr_add15]
      match i, hi with
      | 0, _ => simp at hx; subst hx; rw [Nat.add_zero]; exact e0
      | 1, _ => simp at hx; subst hx; rw [← Nat.add_assoc]; exact e1
      | 2, _ => simp at hx; subst hx; rw [← Nat.add_assoc]; exact e2
    · exact ⟨undef, fun h => absurd h hj⟩
  let us : Nat → Value := fun j => Classical.choose (key j)
  have hus : ∀ j, j < l.length → BSl w F (us j) (nthV l j).d ∧ ∀ ad, a = some ad → ∀ i, i < 3 → ∀ x, [Value.int .u64 (nthV l j).r, .int .u64 (nthV l j).q, us j][i]? = some x → w.cell? (ad.add (j * 3 + i)) = some x := fun j hj => Classical.choose_spec (key j) hj
  have hlen : ((List.range l.length).map fun j => (nthV l j, us j)).length = l.length := by simp
  refine ⟨(List.range l.length).map fun j => (nthV l j, us j), ?_, ?_, ?_⟩
  · refine List.ext_getElem (by simp) (fun j h1 h2 => ?_)
    simp [nthV_at h2]
  · intro p hp
    obtain ⟨j, hj, rfl⟩ := List.mem_map.1 hp
    rw [List.mem_range] at hj
    exact (hus j hj).1
  · intro ad had m u hu
    have hm : m < l.length * 3 := by
      rcases Nat.lt_or_ge m (l.length * 3) with h | h
      · exact h
      · rw [List.getElem?_eq_none (by rw [vcl_len, hlen]; exact h)] at hu; cases hu
    have hd : m = m / 3 * 3 + m % 3 := by omega
    rw [hd, vcl_at _ (m / 3) (m % 3) (by rw [hlen]; omega) (Nat.mod_lt _ (by decide))] at hu
    simp only [List.getElem_map, List.getElem_range] at hu
    have := (hus (m / 3) (by omega)).2 ad had (m % 3) (Nat.mod_lt _ (by decide)) u hu
    rw [← hd] at this
    exact this
section
variable {P : Program} (t e : TypeId) (i0 : TypeInfo) (ht : P.underlying t = some (.slice e)) (hi : P.info? e = some i0) (hz0 : i0.zero = some (.agg #[.int .u64 0, .int .u64 0, .slice none 0 0])) (hz1 : i0.size = 3) (hz2 : i0.bytes = 40)
include ht hi hz0 hz1 hz2
/-- append of one version that lies in a block to a row of the call's own. -/
theorem run_append_v1 (w : World) (base : Nat) (ty : TypeId) (v : Value) (ps : List (Vn × Value)) (hown : VOw e base w v ps) (b : Nat) (c : Vn) (u : Value) (t' : TypeId) (hb : w.heap[b]? = some (.cells #[.int .u64 c.r, .int .u64 c.q, u] t' (0, 0))) (hu : u.oneCell' = true) (hl : ps.length ≤ 100000) (hbase : base ≤ w.heap.size) :
    ∃ a' c' w', (Builtin.append_ #[t, t] ty #[v, .slice (some ⟨b, 0, none⟩) 1 1]).run P w = .ok (.slice a' (ps.length + 1) c') w' ∧ VOw e base w' (.slice a' (ps.length + 1) c') (ps ++ [(c, u)]) ∧ w.grownBy w' v.ownBlock ∧ ((Value.slice a' (ps.length + 1) c').ownBlock = v.ownBlock ∨ (Value.slice a' (ps.length + 1) c').ownBlock = some w.heap.size) := by
  obtain ⟨v', w', hrun, h2, h3, _, h5⟩ := run_append_own_at (P := P) w base t ty e i0 _ 3 40 ht hi hz0 hz1 hz2 rfl (by decide) v ps.length _ hown ⟨b, 0, none⟩ 1 1 (vcl [(c, u)]) (by simp [vcl]) (World.news_of_block hb) (by
    intro x hx
    simp only [vcl, List.flatMap_cons, List.flatMap_nil, List.append_nil, List.mem_cons, List.not_mem_nil, or_false] at hx
    rcases hx with rfl | rfl | rfl
    · rfl
    · rfl
    · exact hu) (by unfold maxLen; omega) (by omega) hbase
  have h2' : VOw e base w' v' (ps ++ [(c, u)]) := by
    unfold VOw
    rw [vcl_app, List.length_append]
    exact h2
  obtain ⟨a', c', ee⟩ := h2'.form
  rw [List.length_append] at ee
  have ee : v' = .slice a' (ps.length + 1) c' := ee
  subst ee
  exact ⟨a', c', w', hrun, h2', h3, h5⟩
theorem wpList_append_v1 (w : World) {ops : Array Oper} {rest : List Oper} {o : Oper} {a : Act} {Q : Exit → Act → World → Prop} (hgd : o.guard = none) (s x : Operand)
    (ho : o.op = .call { callee := .builtin .append, args := #[s, x], argTypes := #[t, t] })
    (base : Nat) (v : Value) (ps : List (Vn × Value)) (hs : a.eval s = v) (hown : VOw e base w v ps) (b : Nat) (c : Vn) (u : Value) (t' : TypeId) (hx : a.eval x = .slice (some ⟨b, 0, none⟩) 1 1) (hb : w.heap[b]? = some (.cells #[.int .u64 c.r, .int .u64 c.q, u] t' (0, 0))) (hu : u.oneCell' = true) (hl : ps.length ≤ 100000) (hbase : base ≤ w.heap.size) (N : Nat) (hN : ps.length + 1 = N)
    (h : ∀ a' c' w', VOw e base w' (.slice a' N c') (ps ++ [(c, u)]) → w.grownBy w' v.ownBlock → ((Value.slice a' N c').ownBlock = v.ownBlock ∨ (Value.slice a' N c').ownBlock = some w.heap.size) → wpList P ops Q rest (a.put o.dst (.slice a' N c')) w') : wpList P ops Q (o :: rest) a w :=
  wpList_plain hgd fun K hK => by
    subst hN
    obtain ⟨a', c', w', hrun, h2, h3, h4⟩ := run_append_v1 t e i0 ht hi hz0 hz1 hz2 w base o.type v ps hown b c u t' hb hu hl hbase
    unfold Oper.wp execOp
    simp only [ho, resolve, invoke, builtin, Sem.run_bind, Sem.run_pure, Result.andThen_ok, List.map_toArray, List.map_cons, List.map_nil, hs, hx, hrun]
    exact hK _ _ (h a' c' w' h2 h3 h4)
/-- append of versions that a slice has to an empty row. -/
theorem run_append_vs0 (w : World) (base : Nat) (ty : TypeId) (x : Value) (l : List Vn) (F : Nat → Prop) (hx : VsAt w F x l) (hl : l.length ≤ 100000) (hbase : base ≤ w.heap.size) :
    ∃ ps a' c' w', (Builtin.append_ #[t, t] ty #[.slice none 0 0, x]).run P w = .ok (.slice a' l.length c') w' ∧ ps.map Prod.fst = l ∧ DatIn w F ps ∧ VOw e base w' (.slice a' l.length c') ps ∧ w.grownBy w' none ∧ ((Value.slice a' l.length c').ownBlock = none ∨ (Value.slice a' l.length c').ownBlock = some w.heap.size) := by
  obtain ⟨xa, xc, rfl⟩ := hx.form
  obtain ⟨ps, hps, hd, hcell⟩ := hx.ps
  have hlen : ps.length = l.length := by rw [← hps, List.length_map]
  obtain ⟨_, hlc, _, hnone⟩ := hx.len
  cases xa with
  | none =>
    obtain rfl := hnone rfl
    obtain rfl : l = [] := List.eq_nil_of_length_eq_zero (by omega)
    obtain rfl : ps = [] := List.eq_nil_of_length_eq_zero hlen
    exact ⟨[], none, 0, w, run_append_owned_none w base t ty e i0 3 ht hi _ 0 [] (World.ownsRow_nil w base e 3), rfl, hd, VOw.nil _ _ _, ⟨rfl, rfl, rfl, Nat.le_refl _, fun _ _ _ => rfl⟩, .inl rfl⟩
  | some ad =>
    obtain ⟨v', w', hrun, h2, h3, _, h5⟩ := run_append_own_at (P := P) w base t ty e i0 _ 3 40 ht hi hz0 hz1 hz2 rfl (by decide) (.slice none 0 0) 0 [] (World.ownsRow_nil w base e 3) ad l.length xc (vcl ps) (by rw [vcl_len, hlen]) (hcell ad rfl) (vcl_one hd) (by unfold maxLen; omega) (by omega) hbase
    have h2' : VOw e base w' v' ps := by
      unfold VOw
      rw [hlen]
      simpa using h2
    obtain ⟨a', c', ee⟩ := h2'.form
    rw [hlen] at ee
    subst ee
    exact ⟨ps, a', c', w', hrun, hps, hd, h2', h3, h5⟩
end
end Go.Proofs.YtabmipjpgofgpaaGreatDoor
namespace Go.Proofs.YtabmipjpgofgpaaGreatDoor
open Go.RowKit
set_option linter.unusedVariables false

theorem info_vers : (Tryz.prog.info? 50).map (fun i => (i.zero, i.size, i.bytes)) = some (some (.agg #[.int .u64 0, .int .u64 0, .slice none 0 0]), 3, 40) := by kernel_rfl
theorem info_rvers : (Tryz.prog.info? 53).map (fun i => (i.zero, i.size, i.bytes)) = some (some (.agg #[.int .u64 0, .int .u64 0, .slice none 0 0]), 3, 40) := by kernel_rfl
/-- Block g is a block of these versions; its own blocks, and no others, lie in G. -/
def BkAt (w : World) (g : Nat) (G : Nat → Prop) (l : List Vn) : Prop :=
  ∃ v ps, w.heap[g]? = some (.cells #[v] 183 (0, 0)) ∧ VOw 50 0 w v ps ∧ ps.map Prod.fst = l ∧ DatIn w (fun k => G k ∧ k ≠ g ∧ some k ≠ v.ownBlock) ps ∧ G g ∧ (∀ k, v.ownBlock = some k → G k) ∧ Asc l
theorem BkAt.kept {S G : Nat → Prop} {w w' : World} {g : Nat} {l : List Vn} (h : BkAt w g G l) (hk : Kept S w w') (hs : ∀ k, G k → ¬ S k) : BkAt w' g G l := by
  obtain ⟨v, ps, h1, h2, h3, h4, h5, h6, h7⟩ := h
  exact ⟨v, ps, hk.heap (hs g h5) h1, h2.kept hk (fun k hk => hs k (h6 k hk)), h3, h4.kept hk (fun k hk => hs k hk.1), h5, h6, h7⟩
theorem BkAt.no {G : Nat → Prop} {w w' : World} {g : Nat} {l : List Vn} (h : BkAt w g G l) (hk : Kept NoB w w') : BkAt w' g G l := h.kept hk (fun _ _ h => h)
theorem BkAt.mono {F G : Nat → Prop} {w : World} {g : Nat} {l : List Vn} (h : BkAt w g F l) (hG : ∀ k, k < w.heap.size → F k → G k) : BkAt w g G l := by
  obtain ⟨v, ps, h1, h2, h3, h4, h5, h6, h7⟩ := h
  exact ⟨v, ps, h1, h2, h3, h4.mono (fun k hk h => ⟨hG k hk h.1, h.2⟩), hG g (heap_lt h1) h5, fun k hk => hG k (h2.base k hk).2 (h6 k hk), h7⟩
theorem BkAt.lt {G : Nat → Prop} {w : World} {g : Nat} {l : List Vn} (h : BkAt w g G l) : g < w.heap.size ∧ G g := by
  obtain ⟨v, ps, h1, h2, h3, h4, h5, h6, h7⟩ := h
  exact ⟨heap_lt h1, h5⟩
theorem BkAt.asc {G : Nat → Prop} {w : World} {g : Nat} {l : List Vn} (h : BkAt w g G l) : Asc l := by
  obtain ⟨v, ps, h1, h2, h3, h4, h5, h6, h7⟩ := h
  exact h7
theorem BkAt.vs {G : Nat → Prop} {w : World} {g : Nat} {l : List Vn} (h : BkAt w g G l) : ∃ a c, w.cell? ⟨g, 0, none⟩ = some (.slice a l.length c) ∧ VsAt w G (.slice a l.length c) l := by
  obtain ⟨v, ps, h1, h2, h3, h4, h5, h6, h7⟩ := h
  have hv := h2.vs h6 (h4.mono (fun k _ h => h.1))
  rw [h3] at hv
  obtain ⟨a, c, rfl⟩ := hv.form
  exact ⟨a, c, cell_of_row _ _ 0 _ _ _ h1, hv⟩
theorem VNew_any (w : World) : Calls Tryz.prog 158 #[] w fun e w' => e = .returned (.pointer (some ⟨w.heap.size, 0, none⟩)) ∧ BkAt w' w.heap.size (fun k => k = w.heap.size) [] ∧ Kept NoB w w' := by
  go_enter Tryz.func158, Tryz.ntmps158
  go_wp2
  go_ret
  exact ⟨rfl, ⟨_, [], heap_alloc_new w _, VOw.nil _ _ _, rfl, (fun p hp => by cases hp), rfl, (fun k hk => by cases hk), Asc.nil⟩, (Kept.refl NoB w).alloc _⟩
theorem VAll_nil (w : World) : Calls Tryz.prog 160 #[.pointer none] w fun e w' => e = .returned (.slice none 0 0) ∧ w = w' := by
  go_enter Tryz.func160, Tryz.ntmps160
  go_wp2
  go_ret
  exact ⟨rfl, rfl⟩
theorem VAll_any (w : World) (g : Nat) (v : Value) (hc : w.cell? ⟨g, 0, none⟩ = some v) : Calls Tryz.prog 160 #[.pointer (some ⟨g, 0, none⟩)] w fun e w' => e = .returned v ∧ w = w' := by
  go_enter Tryz.func160, Tryz.ntmps160
  go_wp2
  go_ret
  exact ⟨rfl, rfl⟩
-- LASTOF
set_option maxRecDepth 100000 in
theorem VLastOf_any (w : World) (v : Value) (l : List Vn) (F : Nat → Prop) (h : VsAt w F v l) : Calls Tryz.prog 163 #[v] w fun e w' => ∃ v', e = .returned v' ∧ VnV w' F v' (lastV l) ∧ Kept NoB w w' := by
  obtain ⟨a, c, rfl⟩ := h.form
  by_cases h0 : l = []
  · subst h0
    have h1 := heap_alloc_new w (.cells #[.int .u64 0, .int .u64 0, .slice none 0 0] 50)
    obtain ⟨r0, r1, r2⟩ := cells3v h1
    have z0 := blkV_frozen h1
    have hk2 : Kept NoB w (w.alloc (.cells #[.int .u64 0, .int .u64 0, .slice none 0 0] 50)) := (Kept.refl _ _).alloc _
    have HK := Lib.hid hk2
    rw [show ([] : List Vn).length = 0 from rfl]
    clear h h1 hk2
    go_enter Tryz.func163, Tryz.ntmps163
    go_wp2
    exact bodyPost_ret (v := .agg #[.int .u64 0, .int .u64 0, .slice none 0 0]) (by simp [results, Tryz.results163, go_sem, r0, r1, r2]) rfl ⟨_, rfl, VnV.zero _ _, HK.out⟩
  · obtain ⟨k, hk⟩ : ∃ k, l.length = k + 1 := ⟨l.length - 1, by have := List.length_pos_iff.2 h0; omega⟩
    obtain ⟨b, o, rfl, hF, hb, u, e0, e1, e2, hd⟩ := h.at_ (j := k) (by omega)
    have hkm : k < 9223372036854775807 := by have := h.len; unfold maxLen at this; omega
    have hl : lastV l = nthV l k := by unfold lastV; rw [hk, Nat.add_sub_cancel]
    rw [hl, hk]
    obtain ⟨⟨y0, y1, y2⟩, hy⟩ : ∃ y, y = nthV l k := ⟨_, rfl⟩
    rw [← hy] at e0 e1 hd ⊢
    simp only at e0 e1 hd
    have HD := Lib.hid hd
    obtain ⟨ua, uc, rfl, _⟩ := hd
    have k1 : (((k + 1 : Nat) : Int) == 0) = false := by rw [beq_eq_false_iff_ne]; omega
    have k2 : ((k + 1 : Nat) : Int) = (k : Int) + 1 := by omega
    clear h h0 hk hl hy
    have HK := Lib.hid ((Kept.refl NoB w).alloc (.cells #[.int .u64 y0, .int .u64 y1, .slice ua y2.length uc] 50))
    have h1 := heap_alloc_new w (.cells #[.int .u64 y0, .int .u64 y1, .slice ua y2.length uc] 50)
    obtain ⟨r0, r1, r2⟩ := cells3v h1
    clear h1
    go_enter Tryz.func163, Tryz.ntmps163
    go_wp2
    exact bodyPost_ret (v := .agg #[.int .u64 y0, .int .u64 y1, .slice ua y2.length uc]) (by simp [results, Tryz.results163, go_sem, r0, r1, r2]) rfl ⟨_, rfl, ⟨_, rfl, HD.out.kept HK.out (fun _ _ h => h)⟩, HK.out⟩
set_option maxRecDepth 100000 in
theorem RLast15_any (w : World) (v : Value) (l : List Vn) (F : Nat → Prop) (h : VsAt w F v l) : Calls Tryz.prog 55 #[v] w fun e w' => ∃ v', e = .returned v' ∧ VnV w' F v' (lastV l) ∧ Kept NoB w w' := by
  obtain ⟨a, c, rfl⟩ := h.form
  by_cases h0 : l = []
  · subst h0
    have h1 := heap_alloc_new w (.cells #[.int .u64 0, .int .u64 0, .slice none 0 0] 53)
    obtain ⟨r0, r1, r2⟩ := cells3v h1
    have z0 := blkV_frozen h1
    have hk2 : Kept NoB w (w.alloc (.cells #[.int .u64 0, .int .u64 0, .slice none 0 0] 53)) := (Kept.refl _ _).alloc _
    have HK := Lib.hid hk2
    rw [show ([] : List Vn).length = 0 from rfl]
    clear h h1 hk2
    go_enter Tryz.func55, Tryz.ntmps55
    go_wp2
    exact bodyPost_ret (v := .agg #[.int .u64 0, .int .u64 0, .slice none 0 0]) (by simp [results, Tryz.results55, go_sem, r0, r1, r2]) rfl ⟨_, rfl, VnV.zero _ _, HK.out⟩
  · obtain ⟨k, hk⟩ : ∃ k, l.length = k + 1 := ⟨l.length - 1, by have := List.length_pos_iff.2 h0; omega⟩
    obtain ⟨b, o, rfl, hF, hb, u, e0, e1, e2, hd⟩ := h.at_ (j := k) (by omega)
    have hkm : k < 9223372036854775807 := by have := h.len; unfold maxLen at this; omega
    have hl : lastV l = nthV l k := by unfold lastV; rw [hk, Nat.add_sub_cancel]
    rw [hl, hk]
    obtain ⟨⟨y0, y1, y2⟩, hy⟩ : ∃ y, y = nthV l k := ⟨_, rfl⟩
    rw [← hy] at e0 e1 hd ⊢
    simp only at e0 e1 hd
    have HD := Lib.hid hd
    obtain ⟨ua, uc, rfl, _⟩ := hd
    have k1 : (((k + 1 : Nat) : Int) == 0) = false := by rw [beq_eq_false_iff_ne]; omega
    have k2 : ((k + 1 : Nat) : Int) = (k : Int) + 1 := by omega
    clear h h0 hk hl hy
    have HK := Lib.hid ((Kept.refl NoB w).alloc (.cells #[.int .u64 y0, .int .u64 y1, .slice ua y2.length uc] 53))
    have h1 := heap_alloc_new w (.cells #[.int .u64 y0, .int .u64 y1, .slice ua y2.length uc] 53)
    obtain ⟨r0, r1, r2⟩ := cells3v h1
    clear h1
    go_enter Tryz.func55, Tryz.ntmps55
    go_wp2
    exact bodyPost_ret (v := .agg #[.int .u64 y0, .int .u64 y1, .slice ua y2.length uc]) (by simp [results, Tryz.results55, go_sem, r0, r1, r2]) rfl ⟨_, rfl, ⟨_, rfl, HD.out.kept HK.out (fun _ _ h => h)⟩, HK.out⟩
-- LASTOF END
/-- bytes.Clone: a slice of the call's own. -/
theorem Clone_own15 (v : Value) (l : List Int) (F : Nat → Prop) (w : World) (h : BSl w F v l) (hl : l.length ≤ 1000000) :
    Calls Tryz.prog 143 #[v] w fun e w' => ∃ v', e = .returned v' ∧ Own w' (fun k => w.heap.size ≤ k) v' l ∧ Kept NoB w w' := by
  obtain ⟨i0, hi0, hz0, hz1, hz2⟩ := info_parts Tryz.info5
  have HB := Lib.hid h
  obtain ⟨a, cap, rfl, hc, hm, hn, hr⟩ := h
  have hq := fun (w : World) => Lib.run_eql_slice_nil (P := Tryz.prog) w 34 5 a l.length cap 0 0 Tryz.underlying34
  rcases a with _ | ad
  · have h0 := hn rfl
    subst h0
    have hl : l = [] := List.eq_nil_of_length_eq_zero (by omega)
    subst hl
    simp only [Option.isNone, List.length_nil] at hq
    go_enter Tryz.func143, Tryz.ntmps143
    go_wp2
    go_ret
    exact ⟨_, rfl, Own.nil _ _, Kept.refl _ _⟩
  · simp only [Option.isNone] at hq
    clear hr hn
    go_enter Tryz.func143, Tryz.ntmps143
    go_wp2_with (at_builtin; refine wpList_append_bsl _ rfl (.tmp 5) (.tmp 6) _ rfl 5 i0 _ Tryz.underlying34 hi0 hz0 hz1 hz2 rfl (.slice (some ⟨w.heap.size, 0, none⟩) 0 0) 0 [] rfl (World.ownsRow_made w #[] 0 (Nat.zero_le _) (by decide) rfl) F _ l rfl (HB.out.kept ((Kept.refl NoB _).alloc _) (fun _ _ h => h)) (by omega) ?_; intro a' c' w1 hown1 hg1 hat1)
    go_ret
    have hk1 : Kept NoB w w1 := ((Kept.refl _ _).alloc _).grown hg1 (fun k hk => .inr (by simp [Value.ownBlock] at hk; omega))
    simp only [Nat.zero_add, List.nil_append] at hown1 hat1
    refine ⟨.slice a' l.length c', rfl, ⟨HB.out.isB, hown1, fun k hk => ?_⟩, hk1⟩
    rcases hat1 with e | e <;> rw [e] at hk <;> simp [Value.ownBlock] at hk <;> omega
set_option maxRecDepth 100000 in
theorem VCopyOf_any (w : World) (v : Value) (x : Vn) (F : Nat → Prop) (h : VnV w F v x) (hl : x.d.length ≤ 1000000) : Calls Tryz.prog 164 #[v] w fun e w' => ∃ v', e = .returned v' ∧ VnO w' (fun k => w.heap.size ≤ k) v' x ∧ Kept NoB w w' := by
  obtain ⟨u, rfl, hd⟩ := h
  obtain ⟨y0, y1, y2⟩ := x
  simp only at hd hl ⊢
  have hk2 := ((Kept.refl NoB w).alloc (.cells #[.int .u64 y0, .int .u64 y1, u] 50)).alloc (.cells #[.int .u64 0, .int .u64 0, .slice none 0 0] 50)
  have h1 := heap_alloc_new w (.cells #[.int .u64 y0, .int .u64 y1, u] 50)
  have h2 := heap_alloc_new (w.alloc (.cells #[.int .u64 y0, .int .u64 y1, u] 50)) (.cells #[.int .u64 0, .int .u64 0, .slice none 0 0] 50)
  have HC := Lib.hid (Clone_own15 u y2 F _ (hd.kept hk2 (fun _ _ h => h)) hl)
  have h1' := blkV_alloc h1 (.cells #[.int .u64 0, .int .u64 0, .slice none 0 0] 50)
  rw [show (w.alloc (.cells #[.int .u64 y0, .int .u64 y1, u] 50)).heap.size = w.heap.size + 1 by simp] at h2
  obtain ⟨ua, uc, rfl, _⟩ := hd
  have HK := Lib.hid hk2
  have H1 := Lib.hid h1'
  have H2 := Lib.hid h2
  have HZ : Hid (((w.alloc (.cells #[.int .u64 y0, .int .u64 y1, .slice ua y2.length uc] 50)).alloc (.cells #[.int .u64 0, .int .u64 0, .slice none 0 0] 50)).heap.size = w.heap.size + 2) := Lib.hid (by simp)
  clear hk2 h1 h2 h1' hl
  go_enter Tryz.func164, Tryz.ntmps164
  go_wp2_with fail
  refine HC.out.mono ?_
  rintro e w1 ⟨v', rfl, hv, hk⟩
  obtain ⟨va, vc, rfl⟩ := own_form hv.2.1
  have HV := Lib.hid (hv.mono (G := fun k => w.heap.size + 2 ≤ k) (fun k _ h => by have := HZ.out; omega))
  have HK1 := Lib.hid (HK.out.trans hk (fun _ _ h => h))
  have h1 := hk.heap (fun h => h) H1.out
  have h2 := hk.heap (fun h => h) H2.out
  obtain ⟨c0, c1, c2⟩ := cells3v h1
  obtain ⟨r0, r1, r2⟩ := cells3v h2
  have z1 := blkV_frozen h1
  have z2 := blkV_frozen h2
  have H1' := Lib.hid h1
  have H2' := Lib.hid h2
  have hne : ¬ w.heap.size + 1 = w.heap.size := by omega
  have hne2 : ¬ w.heap.size = w.heap.size + 1 := by omega
  clear hk hv h1 h2
  go_wp2
  have hF := three15_at (blkV_set_other H2'.out 2 (.slice va y2.length vc) hne2) (.int .u64 y0) (.int .u64 y1) (.slice va y2.length vc)
  have hK := (HK1.out.setCell (p := ⟨w.heap.size, 2, none⟩) (.inr (Nat.le_refl _)) (.slice va y2.length vc)).three15 (b := w.heap.size + 1) (.inr (by omega)) 0 (.int .u64 y0) (.int .u64 y1) (.slice va y2.length vc)
  have hO := HV.out.kept (((Kept.refl (fun k => k < w.heap.size + 2) w1).setCell (p := ⟨w.heap.size, 2, none⟩) (.inl (by show w.heap.size < w.heap.size + 2; omega)) (.slice va y2.length vc)).three15 (b := w.heap.size + 1) (.inl (by omega)) 0 (.int .u64 y0) (.int .u64 y1) (.slice va y2.length vc)) (fun k h h' => by omega)
  clear c0 c1 c2 r0 r1 r2 z1 z2
  obtain ⟨r0, r1, r2⟩ := cells3v hF
  clear hF
  unfold three15 at r0 r1 r2 hK hO
  simp only [Nat.zero_add] at r0 r1 r2 hK hO
  generalize hW : World.setCell _ _ _ = W3 at r0 r1 r2 hK hO ⊢
  exact bodyPost_ret (v := .agg #[.int .u64 y0, .int .u64 y1, .slice va y2.length vc]) (by simp [results, Tryz.results164, go_sem, r0, r1, r2]) rfl ⟨_, rfl, ⟨_, rfl, hO.mono (fun k _ h => by omega)⟩, hK⟩
end Go.Proofs.YtabmipjpgofgpaaGreatDoor
namespace Go.Proofs.YtabmipjpgofgpaaGreatDoor
open Go.RowKit
set_option linter.unusedVariables false

/-- What all tells of a block, or of none. -/
def TellsV (w : World) (x v : Value) : Prop := ∀ w', Kept NoB w w' → Calls Tryz.prog 160 #[x] w' fun e w'' => e = .returned v ∧ w' = w''
theorem TellsV.no {w w' : World} {x v : Value} (h : TellsV w x v) (hk : Kept NoB w w') : TellsV w' x v := fun w2 hk2 => h w2 (hk.trans hk2 (fun _ _ h => h))
theorem TellsV.nil (w : World) : TellsV w (.pointer none) (.slice none 0 0) := fun w' _ => VAll_nil w'
theorem TellsV.of {w : World} {g : Nat} {v : Value} (h : w.cell? ⟨g, 0, none⟩ = some v) : TellsV w (.pointer (some ⟨g, 0, none⟩)) v := fun w' hk => VAll_any w' g v (hk.cell (p := ⟨g, 0, none⟩) (fun h => h) h)
/-- What a store of a version into a result's block leaves. -/
theorem fin15 {w W : World} {b : Nat} {x0 x1 x2 : Value} {t : TypeId} (H : W.heap[b]? = some (.cells #[x0, x1, x2] t (0, 0))) (hb : w.heap.size ≤ b) (hK : Kept NoB w W) {F : Nat → Prop} (hF : ∀ k, F k → k ≠ b) (x : Vn) {v : Value} (u : Value) (hv : v = .agg #[.int .u64 x.r, .int .u64 x.q, u]) (hO : Own W F u x.d) :
    (three15 W b 0 (.int .u64 x.r) (.int .u64 x.q) u).cell? ⟨b, 0, none⟩ = some (.int .u64 x.r) ∧ (three15 W b 0 (.int .u64 x.r) (.int .u64 x.q) u).cell? ⟨b, 1, none⟩ = some (.int .u64 x.q) ∧ (three15 W b 0 (.int .u64 x.r) (.int .u64 x.q) u).cell? ⟨b, 2, none⟩ = some u ∧
      VnO (three15 W b 0 (.int .u64 x.r) (.int .u64 x.q) u) F v x ∧ Kept NoB w (three15 W b 0 (.int .u64 x.r) (.int .u64 x.q) u) := by
  obtain ⟨r0, r1, r2⟩ := cells3v (three15_at H (.int .u64 x.r) (.int .u64 x.q) u)
  exact ⟨r0, r1, r2, ⟨u, hv, hO.kept ((Kept.refl (fun k => k = b) W).three15 (.inl rfl) 0 _ _ _) (fun k h e => hF k h e)⟩, hK.three15 (.inr hb) 0 _ _ _⟩
theorem fin15v {w W : World} {b : Nat} {x0 x1 x2 : Value} {t : TypeId} (H : W.heap[b]? = some (.cells #[x0, x1, x2] t (0, 0))) (hb : w.heap.size ≤ b) (hK : Kept NoB w W) {F : Nat → Prop} (hF : ∀ k, F k → k ≠ b) (x : Vn) {v : Value} (u : Value) (hv : v = .agg #[.int .u64 x.r, .int .u64 x.q, u]) (hO : BSl W F u x.d) :
    (three15 W b 0 (.int .u64 x.r) (.int .u64 x.q) u).cell? ⟨b, 0, none⟩ = some (.int .u64 x.r) ∧ (three15 W b 0 (.int .u64 x.r) (.int .u64 x.q) u).cell? ⟨b, 1, none⟩ = some (.int .u64 x.q) ∧ (three15 W b 0 (.int .u64 x.r) (.int .u64 x.q) u).cell? ⟨b, 2, none⟩ = some u ∧
      VnV (three15 W b 0 (.int .u64 x.r) (.int .u64 x.q) u) F v x ∧ Kept NoB w (three15 W b 0 (.int .u64 x.r) (.int .u64 x.q) u) := by
  obtain ⟨r0, r1, r2⟩ := cells3v (three15_at H (.int .u64 x.r) (.int .u64 x.q) u)
  exact ⟨r0, r1, r2, ⟨u, hv, hO.kept ((Kept.refl (fun k => k = b) W).three15 (.inl rfl) 0 _ _ _) (fun k h e => hF k h e)⟩, hK.three15 (.inr hb) 0 _ _ _⟩
set_option maxRecDepth 100000 in
theorem VLast_any (w : World) (x v : Value) (l : List Vn) (F : Nat → Prop) (ht : TellsV w x v) (h : VsAt w F v l) (hl : (lastV l).d.length ≤ 1000000) : Calls Tryz.prog 113 #[x] w fun e w' => ∃ v', e = .returned v' ∧ VnO w' (fun k => w.heap.size < k) v' (lastV l) ∧ Kept NoB w w' := by
  obtain ⟨a, c, rfl⟩ := h.form
  have hk0 := (Kept.refl NoB w).alloc (.cells #[.int .u64 0, .int .u64 0, .slice none 0 0] 50)
  have HT := Lib.hid (ht _ hk0)
  have HL := Lib.hid (VLastOf_any _ _ l F (h.no hk0))
  have HK := Lib.hid hk0
  have HB := Lib.hid (heap_alloc_new w (.cells #[.int .u64 0, .int .u64 0, .slice none 0 0] 50))
  have HZ : Hid ((w.alloc (.cells #[.int .u64 0, .int .u64 0, .slice none 0 0] 50)).heap.size = w.heap.size + 1) := Lib.hid (by simp)
  have HLL := Lib.hid hl
  clear h ht hk0 hl
  go_enter Tryz.func113, Tryz.ntmps113
  go_wp2_with fail
  refine HT.out.mono ?_
  rintro e w1 ⟨rfl, rfl⟩
  go_wp2_with fail
  refine HL.out.mono ?_
  rintro e w2 ⟨v2, rfl, hv2, hk2⟩
  have HK2 := Lib.hid (HK.out.trans hk2 (fun _ _ h => h))
  have HB2 := Lib.hid (hk2.heap (fun h => h) HB.out)
  have HZ2 : Hid (w.heap.size + 1 ≤ w2.heap.size) := Lib.hid (by have := hk2.size; have := HZ.out; omega)
  have HC := Lib.hid (VCopyOf_any w2 v2 (lastV l) F hv2 HLL.out)
  obtain ⟨u2, rfl, hu2⟩ := hv2
  obtain ⟨ua, uc, rfl, _⟩ := hu2
  clear hk2
  go_wp2_with fail
  refine HC.out.mono ?_
  rintro e w3 ⟨v3, rfl, hv3, hk3⟩
  have HK3 := Lib.hid (HK2.out.trans hk3 (fun _ _ h => h))
  have HB3 := Lib.hid (hk3.heap (fun h => h) HB2.out)
  have hv3 := hv3.mono (G := fun k => w.heap.size < k) (fun k _ h => by have := HZ2.out; omega)
  obtain ⟨⟨y0, y1, y2⟩, hy⟩ : ∃ y, y = lastV l := ⟨_, rfl⟩
  have HY := Lib.hid hy
  rw [← hy] at hv3
  obtain ⟨u, rfl, hu⟩ := hv3
  obtain ⟨va, vc, rfl⟩ := own_form hu.2.1
  have HU := Lib.hid hu
  obtain ⟨r0, r1, r2⟩ := cells3v HB3.out
  have z := blkV_frozen HB3.out
  clear hk3 hu hy
  go_wp2
  clear r0 r1 r2 z
  obtain ⟨r0, r1, r2, hO, hK⟩ := fin15 HB3.out (Nat.le_refl _) HK3.out (fun k h e => by omega) ⟨y0, y1, y2⟩ _ rfl HU.out
  unfold three15 at r0 r1 r2 hK hO
  simp only [Nat.zero_add] at r0 r1 r2 hK hO
  generalize hW : World.setCell _ _ _ = W3 at r0 r1 r2 hK hO ⊢
  exact bodyPost_ret (v := .agg #[.int .u64 y0, .int .u64 y1, .slice va y2.length vc]) (by simp [results, Tryz.results113, go_sem, r0, r1, r2]) rfl ⟨_, rfl, HY.out ▸ hO, hK⟩
theorem fld15_q (a b : Int) (u : Value) (w : World) : (Instr.field 50 (.agg #[.int .u64 a, .int .u64 b, u]) 1).run Tryz.prog w = .ok (.int .u64 b) w := by kernel_rfl
theorem fld15_r (a b : Int) (u : Value) (w : World) : (Instr.field 50 (.agg #[.int .u64 a, .int .u64 b, u]) 0).run Tryz.prog w = .ok (.int .u64 a) w := by kernel_rfl
theorem VDirty_any (w : World) (x v : Value) (l : List Vn) (done : Int) (F : Nat → Prop) (ht : TellsV w x v) (h : VsAt w F v l) : Calls Tryz.prog 112 #[x, .int .u64 done] w fun e w' => e = .returned (.bool (dirtyB l done)) ∧ Kept NoB w w' := by
  obtain ⟨a, c, rfl⟩ := h.form
  have HT := Lib.hid (ht _ (Kept.refl _ _))
  have HL := Lib.hid (VLastOf_any _ _ l F h)
  obtain ⟨bb, hbb⟩ : ∃ b, b = dirtyB l done := ⟨_, rfl⟩
  have HBB := Lib.hid hbb
  rw [← hbb]
  clear h ht hbb
  go_enter Tryz.func112, Tryz.ntmps112
  go_wp2_with fail
  refine HT.out.mono ?_
  rintro e w1 ⟨rfl, rfl⟩
  go_wp2_with fail
  refine HL.out.mono ?_
  rintro e w2 ⟨v2, rfl, hv2, hk2⟩
  have HK2 := Lib.hid hk2
  obtain ⟨⟨y0, y1, y2⟩, hy⟩ : ∃ y, y = lastV l := ⟨_, rfl⟩
  have HY := Lib.hid hy
  rw [← hy] at hv2
  obtain ⟨u2, rfl, hu2⟩ := hv2
  obtain ⟨ua, uc, rfl, _⟩ := hu2
  have hfl := fld15_q y0 y1 (.slice ua y2.length uc)
  clear hk2 hy
  go_wp2
  go_ret
  refine ⟨?_, HK2.out⟩
  rw [HBB.out]
  unfold dirtyB
  rw [← HY.out]
  rfl
end Go.Proofs.YtabmipjpgofgpaaGreatDoor
namespace Go.Proofs.YtabmipjpgofgpaaGreatDoor
open Go.RowKit
set_option linter.unusedVariables false

/-- sort.Search over the function literal of upto, which only reads. -/
theorem Search15_any (x y n : Nat) (p : Nat → Bool) (w : World) (hn : n ≤ 100000)
    (hf : ∀ (i q : Nat), i < n → Calls Tryz.prog 162 #[.int .i64 i, .pointer (some ⟨x, 0, none⟩), .pointer (some ⟨y, 0, none⟩)] (w.drewN q) fun e w' => e = .returned (.bool (p i)) ∧ ∃ q', w' = w.drewN q')
    (hm : ∀ a b, a ≤ b → b < n → p a = true → p b = true) :
    Calls Tryz.prog 161 #[.int .i64 n, .func (.func 162) #[] #[.pointer (some ⟨x, 0, none⟩), .pointer (some ⟨y, 0, none⟩)]] w fun e w' =>
      ∃ r q : Nat, e = .returned (.int .i64 r) ∧ r ≤ n ∧ (∀ i, i < r → p i = false) ∧ (∀ i, r ≤ i → i < n → p i = true) ∧ w' = w.drewN q := by
  have HF := Lib.hid hf
  have HM := Lib.hid hm
  clear hf hm
  go_enter Tryz.func161, Tryz.ntmps161
  go_wp2
  go_loopw [5, 6] (fun i j wr => ∃ a b q : Nat, i = .int .i64 a ∧ j = .int .i64 b ∧ a ≤ b ∧ b ≤ n ∧ (∀ i, i < a → p i = false) ∧ (∀ i, b ≤ i → i < n → p i = true) ∧ wr = w.drewN q) (fun i j _ => (intOf j).toNat - (intOf i).toNat)
  case atStart => exact ⟨0, n, 0, rfl, rfl, Nat.zero_le _, Nat.le_refl _, fun i h => absurd h (by omega), fun i h1 h2 => absurd h1 (by omega), rfl⟩
  case round =>
    obtain ⟨a, b, q, rfl, rfl, hab, hbn, hlo, hhi, rfl⟩ := hrel
    have HLO := Lib.hid hlo
    have HHI := Lib.hid hhi
    clear hlo hhi
    by_cases hlt : a < b
    · go_wp2_with fail
      obtain ⟨h, hh⟩ : ∃ h : Nat, (a + b) / 2 = h := ⟨_, rfl⟩
      have he : ((a : Int) + (b : Int)) / 2 = (h : Int) := by omega
      have h1 : a ≤ h := by omega
      have h2 : h < b := by omega
      rw [he]
      have HH := Lib.hid hh
      clear hh he
      refine (HF.out h q (by omega)).mono ?_
      rintro e w' ⟨rfl, q', rfl⟩
      obtain ⟨pb, hpb⟩ : ∃ pb, pb = p h := ⟨_, rfl⟩
      rw [← hpb]
      have HP := Lib.hid hpb
      clear hpb
      have hnot : ∀ (x : Bool) (w : World), (Op.unary .not (.bool x)).run Tryz.prog w = .ok (.bool (!x)) w := fun _ _ => rfl
      cases pb
      · go_wp2
        refine ⟨⟨h + 1, b, q', by go_num, rfl, by omega, hbn, fun i hi => ?_, HHI.out, rfl⟩, by simp [intOf]; omega⟩
        cases hpi : p i with
        | false => rfl
        | true => exact absurd (HM.out i h (by omega) (by omega) hpi) (by rw [← HP.out]; decide)
      · go_wp2
        refine ⟨⟨a, h, q', rfl, rfl, by omega, by omega, HLO.out, fun i hi1 hi2 => HM.out h i hi1 hi2 HP.out.symm, rfl⟩, by simp [intOf]; omega⟩
    · obtain rfl : a = b := by omega
      go_wp2
      go_ret
      exact ⟨a, q, rfl, hbn, HLO.out, HHI.out, rfl⟩
set_option maxRecDepth 100000 in
theorem upto1_any (x y : Nat) (a : Option Addr) (c : Nat) (l : List Vn) (F : Nat → Prop) (done : Int) (i q : Nat) (w : World) (h : VsAt w F (.slice a l.length c) l) (hi : i < l.length) (hx : w.cell? ⟨x, 0, none⟩ = some (.slice a l.length c)) (hy : w.cell? ⟨y, 0, none⟩ = some (.int .u64 done)) :
    Calls Tryz.prog 162 #[.int .i64 i, .pointer (some ⟨x, 0, none⟩), .pointer (some ⟨y, 0, none⟩)] (w.drewN q) fun e w' => e = .returned (.bool (decide (done < (nthV l i).q))) ∧ ∃ q', w' = w.drewN q' := by
  obtain ⟨b, o, rfl, hF, hb, u, e0, e1, e2, hd⟩ := h.at_ hi
  have hlen := h.len
  unfold maxLen at hlen
  obtain ⟨n, hn⟩ : ∃ n, n = (nthV l i).q := ⟨_, rfl⟩
  rw [← hn] at e1 ⊢
  have hi0 : (0 : Int) ≤ (i : Int) := by omega
  have hi1 : (i : Int) < (l.length : Int) := by omega
  have hi2 : (l.length : Int) ≤ 9223372036854775807 := by omega
  have hx' : (w.drewN q).cell? ⟨x, 0, none⟩ = some (.slice (some ⟨b, o, none⟩) l.length c) := hx
  have hy' : (w.drewN q).cell? ⟨y, 0, none⟩ = some (.int .u64 done) := hy
  have e1' : (w.drewN q).cell? ⟨b, o + i * 3 + 1, none⟩ = some (.int .u64 n) := e1
  obtain ⟨W, hW⟩ : ∃ W, W = w.drewN q := ⟨_, rfl⟩
  rw [← hW] at hx' hy' e1' ⊢
  have HW := Lib.hid hW
  clear h hn hx hy e0 e1 e2 hd hW hlen
  go_enter Tryz.func162, Tryz.ntmps162
  go_wp2
  go_quiet (fail)
  go_wp2
  go_ret
  exact ⟨rfl, q + nq, by rw [HW.out]; simp [World.drewN, Nat.add_assoc]⟩
set_option maxRecDepth 100000 in
theorem Vupto_any (w : World) (x v : Value) (l : List Vn) (done : Int) (F : Nat → Prop) (ht : TellsV w x v) (h : VsAt w F v l) (hasc : Asc l) (hl : l.length ≤ 100000) :
    Calls Tryz.prog 108 #[x, .int .u64 done] w fun e w' => ∃ a, e = .returned (.slice a (cnt l done) (cnt l done)) ∧ VsAt w' F (.slice a (cnt l done) (cnt l done)) (l.take (cnt l done)) ∧ Kept NoB w w' := by
  obtain ⟨a, c, rfl⟩ := h.form
  have hmf : ∀ (fn : Fn) (first cap : Array Value) (w : World), (Instr.makeFunc fn first cap).run Tryz.prog w = .ok (.func fn first cap) w := fun _ _ _ _ => rfl
  have hk1 := (Kept.refl NoB w).alloc (.cells #[.int .u64 done] 23)
  have hk2 := hk1.alloc (.cells #[.slice a l.length c] 179)
  have hy := blkV_alloc (heap_alloc_new w (.cells #[.int .u64 done] 23)) (.cells #[.slice a l.length c] 179)
  have hx := heap_alloc_new (w.alloc (.cells #[.int .u64 done] 23)) (.cells #[.slice a l.length c] 179)
  rw [show (w.alloc (.cells #[.int .u64 done] 23)).heap.size = w.heap.size + 1 by simp] at hx
  have hv2 := h.no hk2
  have HT := Lib.hid (ht _ hk1)
  have hcx := cell_of_row _ _ 0 _ _ _ hx
  have hcy := cell_of_row _ _ 0 _ _ _ hy
  have HS := Lib.hid (Search15_any (w.heap.size + 1) w.heap.size l.length (fun i => decide (done < (nthV l i).q)) _ hl
    (fun i q hi => upto1_any (w.heap.size + 1) w.heap.size a c l F done i q _ hv2 hi hcx hcy)
    (fun i j hij hj hp => by
      simp only [decide_eq_true_eq] at hp ⊢
      rcases Nat.lt_or_ge i j with hlt | hge
      · have := hasc.lt hlt hj
        omega
      · obtain rfl : i = j := by omega
        exact hp))
  have HK := Lib.hid hk2
  have HV := Lib.hid hv2
  have HX := Lib.hid hx
  have HA := Lib.hid hasc
  have hlc := h.len
  have hln : (l.length : Int) ≤ (c : Int) := by omega
  clear h ht hk1 hk2 hx hy hv2 hcx hcy hasc
  go_enter Tryz.func108, Tryz.ntmps108
  go_wp2_with fail
  refine HT.out.mono ?_
  rintro e w1 ⟨rfl, rfl⟩
  have c0 := cell_of_row _ _ 0 _ _ _ HX.out
  go_wp2_with fail
  refine HS.out.mono ?_
  rintro e w1 ⟨r, q, rfl, hr, h1, h2, rfl⟩
  have hu : cnt l done = r := cnt_of HA.out hr (fun i hi => by have := h1 i hi; simp only [decide_eq_false_iff_not] at this; omega) (fun i hi1 hi2 => by have := h2 i hi1 hi2; simpa using this)
  have HU := Lib.hid hu
  have HK2 := Lib.hid (HK.out.drewN q)
  have HV2 := Lib.hid ((HV.out.no ((Kept.refl NoB _).drewN q)).take3 hr)
  have c1 := ((Kept.refl NoB _).drewN q).cell (p := ⟨w.heap.size + 1, 0, none⟩) (fun h => h) c0
  have hr1 : (r : Int) ≤ (l.length : Int) := by omega
  have hr2 : (r : Int) ≤ (c : Int) := by omega
  have hr3 : r ≤ c := by omega
  clear h1 h2 hu c0
  go_wp2
  go_ret
  rw [HU.out]
  exact ⟨_, rfl, HV2.out, HK2.out⟩
set_option maxRecDepth 100000 in
theorem VClean_any (w : World) (x v : Value) (l : List Vn) (done : Int) (F : Nat → Prop) (ht : TellsV w x v) (h : VsAt w F v l) (hasc : Asc l) (hl : l.length ≤ 100000) : Calls Tryz.prog 165 #[x, .int .u64 done] w fun e w' => ∃ v', e = .returned v' ∧ VnO w' (fun k => w.heap.size < k) v' (cleanV l done) ∧ Kept NoB w w' := by
  have hk0 := (Kept.refl NoB w).alloc (.cells #[.int .u64 0, .int .u64 0, .slice none 0 0] 50)
  have HU := Lib.hid (Vupto_any _ x v l done F (ht.no hk0) (h.no hk0) hasc hl)
  have HK := Lib.hid hk0
  have HB := Lib.hid (heap_alloc_new w (.cells #[.int .u64 0, .int .u64 0, .slice none 0 0] 50))
  have HZ : Hid ((w.alloc (.cells #[.int .u64 0, .int .u64 0, .slice none 0 0] 50)).heap.size = w.heap.size + 1) := Lib.hid (by simp)
  have HLL := Lib.hid (show (cleanV l done).d.length ≤ 1000000 by have := (hasc.clean done).2.2.2.2; omega)
  clear h ht hk0 hl hasc
  go_enter Tryz.func165, Tryz.ntmps165
  go_wp2_with fail
  refine HU.out.mono ?_
  rintro e w1 ⟨a1, rfl, hv1, hk1⟩
  have HK1 := Lib.hid (HK.out.trans hk1 (fun _ _ h => h))
  have HB1 := Lib.hid (hk1.heap (fun h => h) HB.out)
  have HZ1 : Hid (w.heap.size + 1 ≤ w1.heap.size) := Lib.hid (by have := hk1.size; have := HZ.out; omega)
  have hLL := VLastOf_any _ _ _ F hv1
  rw [lastV_take] at hLL
  have HL := Lib.hid hLL
  clear hk1 hv1 hLL
  go_wp2_with fail
  refine HL.out.mono ?_
  rintro e w2 ⟨v2, rfl, hv2, hk2⟩
  have HK2 := Lib.hid (HK1.out.trans hk2 (fun _ _ h => h))
  have HB2 := Lib.hid (hk2.heap (fun h => h) HB1.out)
  have HZ2 : Hid (w.heap.size + 1 ≤ w2.heap.size) := Lib.hid (by have := hk2.size; have := HZ1.out; omega)
  have HC := Lib.hid (VCopyOf_any w2 v2 (cleanV l done) F hv2 HLL.out)
  obtain ⟨u2, rfl, hu2⟩ := hv2
  obtain ⟨ua, uc, rfl, _⟩ := hu2
  clear hk2
  go_wp2_with fail
  refine HC.out.mono ?_
  rintro e w3 ⟨v3, rfl, hv3, hk3⟩
  have HK3 := Lib.hid (HK2.out.trans hk3 (fun _ _ h => h))
  have HB3 := Lib.hid (hk3.heap (fun h => h) HB2.out)
  have hv3 := hv3.mono (G := fun k => w.heap.size < k) (fun k _ h => by have := HZ2.out; omega)
  obtain ⟨⟨y0, y1, y2⟩, hy⟩ : ∃ y, y = cleanV l done := ⟨_, rfl⟩
  have HY := Lib.hid hy
  rw [← hy] at hv3
  obtain ⟨u, rfl, hu⟩ := hv3
  obtain ⟨va, vc, rfl⟩ := own_form hu.2.1
  have HU := Lib.hid hu
  obtain ⟨r0, r1, r2⟩ := cells3v HB3.out
  have z := blkV_frozen HB3.out
  clear hk3 hu hy
  go_wp2
  clear r0 r1 r2 z
  obtain ⟨r0, r1, r2, hO, hK⟩ := fin15 HB3.out (Nat.le_refl _) HK3.out (fun k h e => by omega) ⟨y0, y1, y2⟩ _ rfl HU.out
  unfold three15 at r0 r1 r2 hK hO
  simp only [Nat.zero_add] at r0 r1 r2 hK hO
  generalize hW : World.setCell _ _ _ = W3 at r0 r1 r2 hK hO ⊢
  exact bodyPost_ret (v := .agg #[.int .u64 y0, .int .u64 y1, .slice va y2.length vc]) (by simp [results, Tryz.results165, go_sem, r0, r1, r2]) rfl ⟨_, rfl, HY.out ▸ hO, hK⟩
end Go.Proofs.YtabmipjpgofgpaaGreatDoor
namespace Go.Proofs.YtabmipjpgofgpaaGreatDoor
open Go.RowKit
set_option linter.unusedVariables false

theorem pick_hit {l : List Vn} {ver done : Int} {k : Nat} (hk : k < l.length) (h : ∀ j, j < k → (nthV l j).r ≠ ver) (he : (nthV l k).r = ver) : pickV l ver done = nthV l k := by
  unfold pickV
  rw [findV_hit hk h he]
  rfl
theorem pick_miss {l : List Vn} {ver done : Int} (h : ∀ j, j < l.length → (nthV l j).r ≠ ver) : pickV l ver done = if ver < (cleanV l done).r then cleanV l done else vn0 := by
  unfold pickV
  rw [findV_none h]
  rfl
def PkRel (W : World) (n : Nat) (l : List Vn) (ver : Int) (iv : Value) (wr : World) : Prop := ∃ k : Nat, k ≤ n ∧ iv = .int .i64 k ∧ (∀ j, j < k → (nthV l j).r ≠ ver) ∧ Kept NoB W wr
set_option maxRecDepth 100000 in
set_option maxHeartbeats 1000000 in
theorem VPick_any (w : World) (x v : Value) (l : List Vn) (ver done : Int) (F : Nat → Prop) (ht : TellsV w x v) (h : VsAt w F v l) (hasc : Asc l) (hl : l.length ≤ 100000) : Calls Tryz.prog 114 #[x, .int .u64 ver, .int .u64 done] w fun e w' => ∃ v', e = .returned v' ∧ VnO w' (fun k => w.heap.size < k) v' (pickV l ver done) ∧ Kept NoB w w' := by
  obtain ⟨a, c, rfl⟩ := h.form
  have hk0 := (Kept.refl NoB w).alloc (.cells #[.int .u64 0, .int .u64 0, .slice none 0 0] 50)
  have HT0 := Lib.hid (ht _ hk0)
  have HT := Lib.hid (ht.no hk0)
  have HV := Lib.hid (h.no hk0)
  have HK := Lib.hid hk0
  have HB := Lib.hid (heap_alloc_new w (.cells #[.int .u64 0, .int .u64 0, .slice none 0 0] 50))
  have HZ : Hid ((w.alloc (.cells #[.int .u64 0, .int .u64 0, .slice none 0 0] 50)).heap.size = w.heap.size + 1) := Lib.hid (by simp)
  have HA := Lib.hid hasc
  have hll : (l.length : Int) ≤ 100000 := by omega
  clear h ht hk0 hasc
  go_enter Tryz.func114, Tryz.ntmps114
  go_wp2_with fail
  refine HT0.out.mono ?_
  rintro e w1 ⟨rfl, hw1⟩
  go_wp2_with fail
  subst hw1
  obtain ⟨W, hW⟩ : ∃ W, W = w.alloc (.cells #[.int .u64 0, .int .u64 0, .slice none 0 0] 50) := ⟨_, rfl⟩
  rw [← hW] at HT HV HK HB HZ ⊢
  clear hW HT0
  go_loopw [13] (PkRel W l.length l ver) (fun i _ => l.length - (RowKit.intOf i).toNat)
  case atStart => exact ⟨0, Nat.zero_le _, rfl, fun j h => absurd h (by omega), Kept.refl _ _⟩
  case round =>
    obtain ⟨k, hk, rfl, hno, hK⟩ := hrel
    have hk00 : (0 : Int) ≤ (k : Int) := by omega
    have HKR := Lib.hid hK
    have HNO := Lib.hid hno
    have hvr := HV.out.no hK
    have hbr := hK.heap (fun h => h) HB.out
    have hsr := hK.size
    have HSR : Hid (w.heap.size + 1 ≤ wr.heap.size) := Lib.hid (by have := HZ.out; omega)
    have HBR := Lib.hid hbr
    by_cases hlt : k < l.length
    · have hk1 : (k : Int) < (l.length : Int) := by omega
      obtain ⟨b, o, rfl, hF, hb, u, e0, e1, e2, hd⟩ := hvr.at_ hlt
      have hdl := (HA.out.at_ hlt).2.2.2.2
      obtain ⟨y, hy⟩ : ∃ y, y = nthV l k := ⟨_, rfl⟩
      rw [← hy] at e0 e1 hd hdl
      have HY := Lib.hid hy
      obtain ⟨y0, y1, y2⟩ := y
      simp only at e0 e1 hd hdl
      have hK2 := (Kept.refl NoB wr).alloc (.cells #[.int .u64 y0, .int .u64 y1, u] 50)
      have HC := Lib.hid (VCopyOf_any (wr.alloc (.cells #[.int .u64 y0, .int .u64 y1, u] 50)) (.agg #[.int .u64 y0, .int .u64 y1, u]) ⟨y0, y1, y2⟩ F ⟨u, rfl, hd.kept hK2 (fun _ _ h => h)⟩ (by show y2.length ≤ 1000000; omega))
      obtain ⟨ua, uc, rfl, _⟩ := hd
      have h8 := heap_alloc_new wr (.cells #[.int .u64 y0, .int .u64 y1, .slice ua y2.length uc] 50)
      obtain ⟨d0, d1, d2⟩ := cells3v h8
      have HK2 := Lib.hid ((HK.out.trans HKR.out (fun _ _ h => h)).trans hK2 (fun _ _ h => h))
      have HKW := Lib.hid (HKR.out.trans hK2 (fun _ _ h => h))
      have HB2 := Lib.hid (hK2.heap (fun h => h) HBR.out)
      have HS2 : Hid (w.heap.size + 1 ≤ (wr.alloc (.cells #[.int .u64 y0, .int .u64 y1, .slice ua y2.length uc] 50)).heap.size) := Lib.hid (by have := hK2.size; have := HSR.out; omega)
      clear hno hK hvr hbr hsr h8 hy hK2 hdl
      by_cases he : y0 = ver
      · have HPK : Hid (pickV l ver done = ⟨y0, y1, y2⟩) := Lib.hid (by rw [pick_hit hlt HNO.out (by rw [← HY.out]; exact he), ← HY.out])
        have heb : (y0 == ver) = true := by simpa using he
        clear he
        go_wp2_with fail
        refine HC.out.mono ?_
        rintro e w3 ⟨v3, rfl, hv3, hk3⟩
        have HK3 := Lib.hid (HK2.out.trans hk3 (fun _ _ h => h))
        have HB3 := Lib.hid (hk3.heap (fun h => h) HB2.out)
        have hv3 := hv3.mono (G := fun k => w.heap.size < k) (fun k _ h => by have := HS2.out; omega)
        obtain ⟨u, rfl, hu⟩ := hv3
        obtain ⟨va, vc, rfl⟩ := own_form hu.2.1
        have HU := Lib.hid hu
        clear d0 d1 d2
        obtain ⟨r0, r1, r2⟩ := cells3v HB3.out
        have z := blkV_frozen HB3.out
        clear hk3 hu
        go_wp2
        clear r0 r1 r2 z
        obtain ⟨r0, r1, r2, hO, hK⟩ := fin15 HB3.out (Nat.le_refl _) HK3.out (fun k h e => by omega) ⟨y0, y1, y2⟩ _ rfl HU.out
        unfold three15 at r0 r1 r2 hK hO
        simp only [Nat.zero_add] at r0 r1 r2 hK hO
        generalize hW : World.setCell _ _ _ = W3 at r0 r1 r2 hK hO ⊢
        exact bodyPost_ret (v := .agg #[.int .u64 y0, .int .u64 y1, .slice va y2.length vc]) (by simp [results, Tryz.results114, go_sem, r0, r1, r2]) rfl ⟨_, rfl, by rw [HPK.out]; exact hO, hK⟩
      · have heb : (y0 == ver) = false := by simpa using he
        have HE := Lib.hid he
        clear he
        go_wp2
        exact ⟨⟨k + 1, by omega, by go_num, fun j hj => by
          rcases Nat.lt_or_ge j k with h | h
          · exact HNO.out j h
          · obtain rfl : j = k := by omega
            rw [← HY.out]
            exact HE.out, HKW.out⟩, by simp [RowKit.intOf]; omega⟩
    · obtain rfl : k = l.length := by omega
      have hP := pick_miss (done := done) hno
      have HCL := Lib.hid (VClean_any wr x _ l done F (HT.out.no hK) hvr HA.out (by omega))
      obtain ⟨y, hy⟩ : ∃ y, y = cleanV l done := ⟨_, rfl⟩
      rw [← hy] at HCL hP
      clear hno hK hvr hbr hsr hy
      go_wp2_with fail
      refine HCL.out.mono ?_
      rintro e w2 ⟨v2, rfl, hv2, hk2⟩
      obtain ⟨y0, y1, y2⟩ := y
      obtain ⟨u, rfl, hu⟩ := hv2
      obtain ⟨va, vc, rfl⟩ := own_form hu.2.1
      have hK3 := (Kept.refl NoB w2).alloc (.cells #[.int .u64 y0, .int .u64 y1, .slice va y2.length vc] 50)
      have HU := Lib.hid ((hu.mono (G := fun k => w.heap.size < k) (fun k _ h => by have := HSR.out; omega)).kept hK3 (fun _ _ h => h))
      have HK3 := Lib.hid (((HK.out.trans HKR.out (fun _ _ h => h)).trans hk2 (fun _ _ h => h)).trans hK3 (fun _ _ h => h))
      have HB3 := Lib.hid (hK3.heap (fun h => h) (hk2.heap (fun h => h) HBR.out))
      have h9 := heap_alloc_new w2 (.cells #[.int .u64 y0, .int .u64 y1, .slice va y2.length vc] 50)
      obtain ⟨d0, d1, d2⟩ := cells3v h9
      have HP := Lib.hid hP
      simp only at HP
      obtain ⟨r0, r1, r2⟩ := cells3v HB3.out
      have z := blkV_frozen HB3.out
      clear hk2 hu h9 hP hK3
      by_cases he : ver < y0
      · have heb : decide (ver < y0) = true := decide_eq_true he
        have HPP : Hid (pickV l ver done = ⟨y0, y1, y2⟩) := Lib.hid (by rw [HP.out, if_pos he])
        clear he
        go_wp2
        clear r0 r1 r2 z d0 d1 d2
        obtain ⟨r0, r1, r2, hO, hK⟩ := fin15 HB3.out (Nat.le_refl _) HK3.out (fun k h e => by omega) ⟨y0, y1, y2⟩ _ rfl HU.out
        unfold three15 at r0 r1 r2 hK hO
        simp only [Nat.zero_add] at r0 r1 r2 hK hO
        generalize hW : World.setCell _ _ _ = W3 at r0 r1 r2 hK hO ⊢
        exact bodyPost_ret (v := .agg #[.int .u64 y0, .int .u64 y1, .slice va y2.length vc]) (by simp [results, Tryz.results114, go_sem, r0, r1, r2]) rfl ⟨_, rfl, by rw [HPP.out]; exact hO, hK⟩
      · have heb : decide (ver < y0) = false := decide_eq_false he
        have HPP : Hid (pickV l ver done = vn0) := Lib.hid (by rw [HP.out, if_neg he])
        clear he
        go_wp2
        clear r0 r1 r2 z d0 d1 d2
        obtain ⟨r0, r1, r2, hO, hK⟩ := fin15 HB3.out (Nat.le_refl _) HK3.out (F := fun k => w.heap.size < k) (fun k h e => by omega) vn0 (.slice none 0 0) rfl (Own.nil _ _)
        unfold three15 vn0 at r0 r1 r2 hK hO
        simp only [Nat.zero_add] at r0 r1 r2 hK hO
        generalize hW : World.setCell _ _ _ = W3 at r0 r1 r2 hK hO ⊢
        exact bodyPost_ret (v := .agg #[.int .u64 0, .int .u64 0, .slice none 0 0]) (by simp [results, Tryz.results114, go_sem, r0, r1, r2]) rfl ⟨_, rfl, by rw [HPP.out]; exact hO, hK⟩
end Go.Proofs.YtabmipjpgofgpaaGreatDoor
namespace Go.Proofs.YtabmipjpgofgpaaGreatDoor
open Go.RowKit
set_option linter.unusedVariables false

theorem vcl_set (ps : List (Vn × Value)) (k : Nat) (hk : k < ps.length) (x : Vn) (u : Value) : vcl (ps.set k (x, u)) = (((vcl ps).set (k * 3) (.int .u64 x.r)).set (k * 3 + 1) (.int .u64 x.q)).set (k * 3 + 2) u := by
  induction ps generalizing k with
  | nil => exact absurd hk (by simp)
  | cons p ps ih =>
    have e : ∀ (p : Vn × Value) ps, vcl (p :: ps) = [.int .u64 p.1.r, .int .u64 p.1.q, p.2] ++ vcl ps := fun _ _ => rfl
    cases k with
    | zero => rw [List.set_cons_zero, e, e]; rfl
    | succ k =>
      rw [List.set_cons_succ, e, e, ih k (by simpa using hk)]
      rw [show (k + 1) * 3 = k * 3 + 1 + 1 + 1 by omega]
      rfl
/-- Block r is a row of these versions, and no more. -/
def RowX (w : World) (r : Nat) (ps : List (Vn × Value)) : Prop := w.heap[r]? = some (.cells (vcl ps).toArray 50 (0, 0))
theorem RowX.set {w : World} {r : Nat} {ps : List (Vn × Value)} (h : RowX w r ps) (k : Nat) (hk : k < ps.length) (x : Vn) (u : Value) : RowX (three15 w r (k * 3) (.int .u64 x.r) (.int .u64 x.q) u) r (ps.set k (x, u)) := by
  have := blkV_set (blkV_set (blkV_set h (k * 3) (.int .u64 x.r)) (k * 3 + 1) (.int .u64 x.q)) (k * 3 + 2) u
  unfold RowX three15
  rw [this, vcl_set ps k hk]
  simp
theorem RowX.own {w : World} {r B : Nat} {ps : List (Vn × Value)} (h : RowX w r ps) (hB : B ≤ r) (hl : ps.length ≤ 100000) : VOw 50 B w (.slice (some ⟨r, 0, none⟩) ps.length ps.length) ps :=
  ⟨vcl_len ps, .inr ⟨r, ps.length, _, rfl, hB, h, Nat.le_refl _, by unfold maxLen; omega, by simp [vcl_len], by rw [← vcl_len]; simp⟩⟩
theorem made_vcl (n : Nat) : (madeCells (#[.int .u64 0, .int .u64 0, .slice none 0 0] : Array Value) (n * 3)).toList = vcl (List.replicate n (vn0, .slice none 0 0)) := by
  refine List.ext_getElem? (fun m => ?_)
  have hl : (vcl (List.replicate n ((vn0, .slice none 0 0) : Vn × Value))).length = n * 3 := by rw [vcl_len, List.length_replicate]
  by_cases hm : m < n * 3
  · have hd : m = m / 3 * 3 + m % 3 := by omega
    have h1 : (madeCells (#[.int .u64 0, .int .u64 0, .slice none 0 0] : Array Value) (n * 3)).toList[m]? = some ((#[.int .u64 0, .int .u64 0, .slice none 0 0] : Array Value)[m % 3]!) := by
      unfold madeCells
      simp [hm]
    rw [h1]
    have h2 := vcl_at (List.replicate n ((vn0, .slice none 0 0) : Vn × Value)) (m / 3) (m % 3) (by rw [List.length_replicate]; omega) (Nat.mod_lt _ (by decide))
    rw [← hd] at h2
    rw [h2]
    have h3 : m % 3 < 3 := Nat.mod_lt _ (by decide)
    simp only [List.getElem_replicate, vn0]
    match m % 3, h3 with
    | 0, _ | 1, _ | 2, _ => rfl
  · rw [List.getElem?_eq_none (by rw [Array.length_toList, size_madeCells]; omega), List.getElem?_eq_none (by rw [hl]; omega)]
/-- What List tells: a row of the call's own, the data, too. -/
def ListEndV (w : World) (l : List Vn) (e : Ending) (w' : World) : Prop :=
  ∃ r ps, e = .returned (.slice (some ⟨r, 0, none⟩) ps.length ps.length) ∧ ps.map Prod.fst = l ∧ w.heap.size ≤ r ∧ RowX w' r ps ∧ (∀ p ∈ ps, Own w' (fun k => w.heap.size ≤ k ∧ k ≠ r) p.2 p.1.d) ∧ Kept NoB w w'
def LsRel (w : World) (r : Nat) (l : List Vn) (iv : Value) (wr : World) : Prop :=
  ∃ (k : Nat) (ps : List (Vn × Value)), k ≤ l.length ∧ iv = .int .i64 k ∧ ps.length = l.length ∧ RowX wr r ps ∧ (∀ j, j < k → ∃ u, ps[j]? = some (nthV l j, u) ∧ Own wr (fun i => w.heap.size ≤ i ∧ i ≠ r) u (nthV l j).d) ∧ Kept NoB w wr
end Go.Proofs.YtabmipjpgofgpaaGreatDoor
namespace Go.Proofs.YtabmipjpgofgpaaGreatDoor
open Go.RowKit
set_option linter.unusedVariables false

theorem heap_puts15 {g : Nat} {t : TypeId} {fr : Nat × Nat} : ∀ (vs : List Value) (o : Nat) (w : World) (cur : Array Value), w.heap[g]? = some (.cells cur t fr) → o + vs.length ≤ cur.size →
    ∃ cur', (w.setCells g o vs).heap[g]? = some (.cells cur' t fr) ∧ cur'.size = cur.size ∧ cur'.toList = cur.toList.take o ++ vs ++ cur.toList.drop (o + vs.length)
  | [], o, w, cur, h, hl => ⟨cur, h, rfl, by simp⟩
  | v :: vs, o, w, cur, h, hl => by
    simp only [List.length_cons] at hl
    obtain ⟨cur', h1, h2, h3⟩ := heap_puts15 vs (o + 1) (w.setCell ⟨g, o, none⟩ v) (cur.setIfInBounds o v) (blkV_set h o v) (by simp; omega)
    refine ⟨cur', h1, by simpa using h2, ?_⟩
    rw [h3, Array.toList_setIfInBounds]
    have hlt : o < cur.toList.length := by simp; omega
    have e1 : (cur.toList.set o v).take (o + 1) = cur.toList.take o ++ [v] := by
      rw [List.take_succ_eq_append_getElem (by simpa using hlt)]
      simp [List.take_set_of_le]
    rw [e1, List.drop_set_of_lt (by omega)]
    simp only [List.append_assoc, List.cons_append, List.nil_append, List.length_cons]
    rw [show o + 1 + vs.length = o + (vs.length + 1) by omega]
theorem kept_puts15 {S : Nat → Prop} {g : Nat} {a : World} (hS : S g ∨ a.heap.size ≤ g) : ∀ (vs : List Value) (o : Nat) (w : World), Kept S a w → Kept S a (w.setCells g o vs)
  | [], _, _, h => h
  | v :: vs, o, w, h => kept_puts15 hS vs (o + 1) _ (h.setCell (p := ⟨g, o, none⟩) hS v)
theorem zero_vers (w : World) : (zeroValue 50).run Tryz.prog w = .ok (.agg #[.int .u64 0, .int .u64 0, .slice none 0 0]) w := by kernel_rfl
/-- What clear writes. -/
def zer3 (n : Nat) : List Value := (Builtin.zeroCells #[.int .u64 0, .int .u64 0, .slice none 0 0] n).toList
theorem zer3_len (n : Nat) : (zer3 n).length = n * 3 := by unfold zer3; rw [Array.length_toList, size_zeroCells]; rfl
theorem zer3_one (n : Nat) : ∀ v ∈ zer3 n, v.oneCell' = true := by
  intro v hv
  unfold zer3 Builtin.zeroCells at hv
  rw [Array.mem_toList_iff, Array.mem_map] at hv
  obtain ⟨i, _, rfl⟩ := hv
  have h3 : i % 3 < 3 := Nat.mod_lt _ (by decide)
  show ((#[Value.int .u64 0, .int .u64 0, .slice none 0 0] : Array Value)[i % 3]!).oneCell' = true
  match i % 3, h3 with
  | 0, _ | 1, _ | 2, _ => rfl
theorem run_clear15 (w : World) (ty : TypeId) (b o n c : Nat) (hn : 0 < n) (hc : ∀ j, j < n * 3 → (w.cell? ⟨b, o + j, none⟩).isSome = true) (hf : ∀ j, j < n * 3 → w.frozen? ⟨b, o + j, none⟩ = false) :
    (Builtin.clear_ #[179] ty #[.slice (some ⟨b, o, none⟩) n c]).run Tryz.prog w = .ok (.tuple #[]) (w.setCells b o (zer3 n)) := by
  have hst := run_storeCells_cells (P := Tryz.prog) b o (zer3 n) 0 w (by rw [zer3_len]; simpa using hc) (by rw [zer3_len]; simpa using hf) (zer3_one n)
  simp only [Nat.add_zero] at hst
  unfold zer3 at hst ⊢
  obtain ⟨m, rfl⟩ : ∃ m, n = m + 1 := ⟨n - 1, by omega⟩
  have hz : ∀ w, (zeroValue 50).run Tryz.prog w = .ok (.agg #[.int .u64 0, .int .u64 0, .slice none 0 0]) w := zero_vers
  simp [Builtin.clear_, run_underlying Tryz.underlying179, hz, Value.cells, hst]
set_option maxRecDepth 100000 in
set_option maxHeartbeats 1000000 in
theorem VDelete_any (w : World) (r c k : Nat) (ps : List (Vn × Value)) (F : Nat → Prop) (hown : VOw 50 0 w (.slice (some ⟨r, 0, none⟩) ps.length c) ps) (hd : DatIn w F ps) (hk0 : 0 < k) (hk : k ≤ ps.length) (hl : ps.length ≤ 100000) :
    Calls Tryz.prog 109 #[.slice (some ⟨r, 0, none⟩) ps.length c, .int .i64 0, .int .i64 k] w fun e w' =>
      e = .returned (.slice (some ⟨r, 0, none⟩) (ps.length - k) c) ∧ VOw 50 0 w' (.slice (some ⟨r, 0, none⟩) (ps.length - k) c) (ps.drop k) ∧ Kept (fun i => i = r) w w' := by
  obtain ⟨i0, hi0, hz0, hz1, hz2⟩ := info_parts info_vers
  obtain ⟨cur, hr, hnc, hcm, hcs, htk⟩ : ∃ cur, w.heap[r]? = some (.cells cur 50 (0, 0)) ∧ ps.length ≤ c ∧ c ≤ maxLen ∧ cur.size = c * 3 ∧ cur.toList.take (ps.length * 3) = vcl ps := by
    rcases hown.2 with ⟨hv, _⟩ | ⟨g, cap, cur, hv, hb, hr, hc, hm, hs, ht⟩
    · cases hv
    · injection hv with hv hn hcap
      injection hv with hv
      injection hv with hv _ _
      subst hv hcap
      have hl2 : (vcl ps).length = ps.length * 3 := vcl_len ps
      exact ⟨cur, hr, hc, hm, hs, by rw [← hl2]; rw [hl2]; exact ht⟩
  have HD := Lib.hid hd
  obtain ⟨news, hnews⟩ : ∃ news, news = vcl (ps.drop k) := ⟨_, rfl⟩
  have hlen : news.length = (ps.length - k) * 3 := by rw [hnews, vcl_len, List.length_drop]
  have hcell : ∀ j, j < ps.length * 3 → w.cell? ⟨r, j, none⟩ = (vcl ps)[j]? := by
    intro j hj
    rw [cell_of_row _ _ _ _ _ _ hr, ← htk, List.getElem?_take, if_pos hj, Array.getElem?_toList]
  obtain ⟨A, hA, hsrc⟩ : ∃ A : Addr, (if c = k then some (⟨r, 0, none⟩ : Addr) else some ⟨r, k * 3, none⟩) = some A ∧ Hid (∀ t u, news[t]? = some u → w.drew.cell? (A.add t) = some u) := by
    by_cases h : c = k
    · refine ⟨⟨r, 0, none⟩, by simp [h], Lib.hid (fun t u hu => ?_)⟩
      have h0 : news.length = 0 := by rw [hlen]; omega
      rw [List.length_eq_zero_iff.1 h0] at hu
      simp at hu
    · refine ⟨⟨r, k * 3, none⟩, by simp [h], Lib.hid (fun t u hu => ?_)⟩
      have ht : t < (ps.length - k) * 3 := by
        have := (List.getElem?_eq_some_iff.1 hu).1
        rwa [hlen] at this
      rw [addr_add15]
      show w.cell? _ = _
      rw [hcell _ (by omega)]
      rw [hnews, vcl_drop, List.getElem?_drop] at hu
      exact hu
  have s1 : Hid (news.length = (ps.length - k) * 3) := Lib.hid hlen
  have s2 : Hid (∀ u ∈ news, u.oneCell' = true) := Lib.hid (by rw [hnews]; exact vcl_one (fun p hp => hd p (List.mem_of_mem_drop hp)))
  have s3 : Hid (∀ t, t < news.length → (w.drew.cell? ⟨r, 0 + 0 * 3 + t, none⟩).isSome = true ∧ w.drew.frozen? ⟨r, 0 + 0 * 3 + t, none⟩ = false) := Lib.hid (by
    intro t ht
    rw [hlen] at ht
    refine ⟨?_, blkV_frozen (w := w) hr _⟩
    show (w.cell? _).isSome = true
    rw [cell_of_row _ _ _ _ _ _ hr, Array.getElem?_eq_getElem (by omega)]
    rfl)
  obtain ⟨W1, hW1⟩ : ∃ W1, W1 = w.drew.setCells r (0 + 0 * 3) news := ⟨_, rfl⟩
  obtain ⟨cur1, h1, h2, h3⟩ := heap_puts15 (g := r) news 0 w.drew cur hr (by rw [hlen]; omega)
  have hW1h : W1.heap[r]? = some (.cells cur1 50 (0, 0)) := by rw [hW1]; exact h1
  have hcl : ∀ ty, (Builtin.clear_ #[179] ty #[.slice (some ⟨r, 0 + (ps.length - k) * 3, none⟩) (ps.length - (ps.length - k)) (c - (ps.length - k))]).run Tryz.prog W1 = .ok (.tuple #[]) (W1.setCells r (0 + (ps.length - k) * 3) (zer3 (ps.length - (ps.length - k)))) :=
    fun ty => run_clear15 W1 ty r _ _ _ (by omega) (fun j hj => by rw [cell_of_row _ _ _ _ _ _ hW1h, Array.getElem?_eq_getElem (by omega)]; rfl) (fun j hj => blkV_frozen hW1h _)
  obtain ⟨cur2, g1, g2, g3⟩ := heap_puts15 (g := r) (zer3 (ps.length - (ps.length - k))) (0 + (ps.length - k) * 3) W1 cur1 hW1h (by rw [zer3_len]; omega)
  have HFIN : Hid (VOw 50 0 (W1.setCells r (0 + (ps.length - k) * 3) (zer3 (ps.length - (ps.length - k)))) (.slice (some ⟨r, 0, none⟩) (ps.length - k) c) (ps.drop k)) := Lib.hid (by
    have hdl : (ps.drop k).length = ps.length - k := List.length_drop
    refine ⟨by rw [vcl_len], .inr ⟨r, c, cur2, by rw [hdl], Nat.zero_le _, g1, by rw [hdl]; omega, hcm, by omega, ?_⟩⟩
    have hc1 : cur1.toList.length = c * 3 := by rw [Array.length_toList, h2, hcs]
    rw [hdl, g3, List.append_assoc, List.take_append_of_le_length (by rw [List.length_take, hc1]; omega), List.take_of_length_le (by rw [List.length_take]; omega), h3, Nat.zero_add, Nat.zero_add]
    rw [List.take_zero, List.nil_append, List.take_append_of_le_length (by omega), List.take_of_length_le (by omega), hnews])
  have HKF : Hid (Kept (fun i => i = r) w (W1.setCells r (0 + (ps.length - k) * 3) (zer3 (ps.length - (ps.length - k))))) := Lib.hid (by
    refine kept_puts15 (S := fun i => i = r) (.inl (by show r = r; rfl)) _ _ _ ?_
    rw [hW1]
    exact kept_puts15 (S := fun i => i = r) (.inl (by show r = r; rfl)) _ _ _ (Kept.refl _ w).drew)
  have hW : Hid (W1 = w.drew.setCells r (0 + 0 * 3) news) := Lib.hid hW1
  have hm2 : c ≤ 9223372036854775807 := by unfold maxLen at hcm; exact hcm
  have hck : k ≤ c := by omega
  have kz : ((0 : Int) == (k : Int)) = false := by rw [beq_eq_false_iff_ne]; omega
  obtain ⟨n, hn⟩ : ∃ n, n = ps.length := ⟨_, rfl⟩
  rw [← hn] at hk hl hnc s1 hcl HFIN HKF ⊢
  have hkn1 : (k : Int) ≤ (n : Int) := by omega
  have hkn2 : (n : Int) ≤ (c : Int) := by omega
  have hnl : n - k ≤ c := by omega
  clear hown hd hr htk hcs hcell hlen hnews h1 h2 h3 hW1h g1 g2 g3 hn hW1
  go_enter Tryz.func109, Tryz.ntmps109
  go_wp2_with fail
  go_region_law (refine step_append_room rfl (.tmp 22) (.tmp 25) 179 rfl 50 i0 3 Tryz.underlying179 hi0 hz1 r 0 0 c (by simp [Act.eval, Act.put]) A (n - k) (c - k) news (by simp [Act.eval, Act.put]) s1.out hsrc.out s2.out (by omega) s3.out ?_; rw [← hW.out])
  have hz : 0 + (n - k) * 3 = (n - k) * 3 := by omega
  rw [hz] at hcl HFIN HKF
  clear hz hA
  go_wp2
  go_ret
  exact ⟨rfl, HFIN.out, HKF.out⟩
end Go.Proofs.YtabmipjpgofgpaaGreatDoor
