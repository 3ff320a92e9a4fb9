/-
  Calls of craq that came in; the walk of CraqWaits.
-/
import Derived.Test.YtnnmkmipeoajjaaGreatDoorCrqK
import Derived.IntWalk
import Derived.Deep.RegionHeld3
namespace Go.Proofs.YtnnmkmipeoajjaaGreatDoor
open Go.RowKit
set_option linter.unusedVariables false
set_option linter.unusedSimpArgs false

/-- A call of a node's reads. -/
structure Op22 where
  k : Int
  c : Int
  n : Int
  key : Int
structure Op22C (w : World) (r q : Nat) (x : Op22) : Prop where
  c0 : w.cell? ⟨r, q, none⟩ = some (.int .i64 x.k)
  c1 : w.cell? ⟨r, q + 1, none⟩ = some (.int .i64 x.c)
  c2 : w.cell? ⟨r, q + 2, none⟩ = some (.int .u64 x.n)
  c3 : w.cell? ⟨r, q + 3, none⟩ = some (.int .u32 x.key)
  n0 : 0 ≤ x.n
  k0 : 0 ≤ x.key
theorem Op22C.no {w w' : World} {r q : Nat} {x : Op22} (h : Op22C w r q x) (hk : Kept NoB w w') : Op22C w' r q x :=
  ⟨hk.cell (p := ⟨r, q, none⟩) (fun h => h) h.c0, hk.cell (p := ⟨r, q + 1, none⟩) (fun h => h) h.c1, hk.cell (p := ⟨r, q + 2, none⟩) (fun h => h) h.c2, hk.cell (p := ⟨r, q + 3, none⟩) (fun h => h) h.c3, h.n0, h.k0⟩
def Ops22 (w : World) (v : Value) (n : Nat) (it : Nat → Op22) : Prop :=
  ∃ a c, v = .slice a n c ∧ n ≤ c ∧ c ≤ maxLen ∧ (0 < n → ∃ r o, a = some ⟨r, o, none⟩ ∧ r < w.heap.size ∧ ∀ j, j < n → Op22C w r (o + j * 4) (it j))
/-- What holds of the reads that wait: plainly. -/
structure Wt22 (tk : Int) (L : List Rq) (i : Nat) : Prop where
  d : Dis L
  len : L.length ≤ 16
  t0 : 0 ≤ tk
  ti : tk ≤ i
  tl : ∀ x ∈ L, x.t ≤ tk
theorem Wt22.none {tk : Int} {i : Nat} (h0 : 0 ≤ tk) (h1 : tk ≤ i) : Wt22 tk [] i := ⟨List.Pairwise.nil, Nat.zero_le _, h0, h1, fun x h => by cases h⟩
theorem Wt22.up {tk : Int} {L : List Rq} {i : Nat} (h : Wt22 tk L i) : Wt22 tk L (i + 1) := ⟨h.d, h.len, h.t0, by have := h.ti; omega, h.tl⟩
theorem Wt22.told {tk : Int} {L : List Rq} {i : Nat} (h : Wt22 tk L i) (t : Int) : Wt22 tk (toldF L t).1 (i + 1) :=
  ⟨h.d.sublist List.filter_sublist, Nat.le_trans (List.length_filter_le _ _) h.len, h.t0, by have := h.ti; omega, fun x hx => h.tl x (List.mem_filter.1 hx).1⟩
theorem Wt22.ask {tk : Int} {L : List Rq} {i : Nat} (h : Wt22 tk L i) (c n k : Int) : Wt22 (askF tk L c n k).1 (askF tk L c n k).2.1 (i + 1) := by
  unfold askF
  split
  · exact h.up
  · split
    · exact h.up
    · rename_i hf
      split
      · exact h.up
      · rename_i hg
        have hs : (notC c L).Sublist L := List.filter_sublist
        refine ⟨?_, by simp; omega, by have := h.t0; show 0 ≤ tk + 1; omega, by have := h.ti; show tk + 1 ≤ ((i + 1 : Nat) : Int); omega, fun x hx => ?_⟩
        · refine List.pairwise_append.2 ⟨h.d.sublist hs, List.pairwise_singleton _ _, fun x hx y hy => ?_⟩
          simp only [List.mem_singleton] at hy
          subst hy
          have h1 := h.tl x (hs.mem hx)
          have h2 : x.c ≠ c := by have := (List.mem_filter.1 hx).2; simpa using this
          exact ⟨h2, by show x.t < tk + 1; omega⟩
        · rcases List.mem_append.1 hx with h1 | h1
          · have := h.tl x (hs.mem h1); show x.t ≤ tk + 1; omega
          · simp only [List.mem_singleton] at h1
            subst h1
            show tk + 1 ≤ tk + 1
            omega
/-- The program's reads, and the chapter's, in memory. -/
structure St22 (w : World) (g b : Nat) (tk : Int) (L : List Rq) (wr : World) : Prop where
  rd : ∃ a d, RdsAt wr g a d tk L ∧ ∀ j, (Value.slice a L.length d).ownBlock = some j → w.heap.size ≤ j
  ch : ∃ lv, wr.heap[b]? = some (.cells #[.int .u64 tk, lv] 28 (0, 0)) ∧ RqOw 37 0 wr lv L
  kp : Kept NoB w wr
  gw : w.heap.size ≤ g
  bw : w.heap.size ≤ b
theorem St22.no {w : World} {g b : Nat} {tk : Int} {L : List Rq} {wr w' : World} (h : St22 w g b tk L wr) (hk : Kept NoB wr w') : St22 w g b tk L w' := by
  obtain ⟨⟨a, d, h1, h2⟩, ⟨lv, h3, h4⟩, h5, h6, h7⟩ := h
  exact ⟨⟨a, d, h1.no hk, h2⟩, ⟨lv, hk.heap (fun h => h) h3, h4.no hk⟩, h5.trans hk (fun _ _ h => h), h6, h7⟩
/-- Half-way: the program has taken the step, the chapter not yet. -/
structure Mi22 (w : World) (g b : Nat) (tk : Int) (L : List Rq) (tk' : Int) (L' : List Rq) (wr : World) : Prop where
  rd : ∃ a d, RdsAt wr g a d tk' L' ∧ ∀ j, (Value.slice a L'.length d).ownBlock = some j → w.heap.size ≤ j
  ch : ∃ lv, wr.heap[b]? = some (.cells #[.int .u64 tk, lv] 28 (0, 0)) ∧ RqOw 37 0 wr lv L
  kp : Kept NoB w wr
  gw : w.heap.size ≤ g
  bw : w.heap.size ≤ b
theorem Mi22.no {w : World} {g b : Nat} {tk : Int} {L : List Rq} {tk' : Int} {L' : List Rq} {wr w' : World} (h : Mi22 w g b tk L tk' L' wr) (hk : Kept NoB wr w') : Mi22 w g b tk L tk' L' w' := by
  obtain ⟨⟨a, d, h1, h2⟩, ⟨lv, h3, h4⟩, h5, h6, h7⟩ := h
  exact ⟨⟨a, d, h1.no hk, h2⟩, ⟨lv, hk.heap (fun h => h) h3, h4.no hk⟩, h5.trans hk (fun _ _ h => h), h6, h7⟩
theorem row_ne22l {e u : TypeId} {B : Nat} {w : World} {v : Value} {L : List Rq} {j : Nat} {cs : Array Value} (h : RqOw e B w v L) (hb : w.heap[j]? = some (.cells cs u (0, 0))) (hne : u ≠ e) (hj : v.ownBlock = some j) : False := by
  rcases h.2 with ⟨hv, _⟩ | ⟨r, cap, cur, hv, _, hr, _⟩
  · rw [hv] at hj; simp [Value.ownBlock] at hj
  · rw [hv] at hj
    injection hj with hj
    subst hj
    rw [hb] at hr
    injection hr with hr
    injection hr with _ hr
    exact hne hr
/-- A block of another type is none of the program's reads'. -/
theorem not_ft {g : Nat} {a : Option Addr} {d : Nat} {tk : Int} {L : List Rq} {w : World} (h : RdsAt w g a d tk L) {j : Nat} {cs : Array Value} {u : TypeId} (hj : w.heap[j]? = some (.cells cs u (0, 0))) (h1 : u ≠ 133) (h2 : u ≠ 33) : ¬ FtR g a L.length d j := by
  rintro (rfl | he)
  · rw [h.1] at hj
    injection hj with hj
    injection hj with _ hj
    exact h1 hj.symm
  · exact row_ne22l h.2 hj h2 he.symm
theorem rqow_ft {g : Nat} {a : Option Addr} {d : Nat} {tk : Int} {L K : List Rq} {w : World} {v : Value} {B : Nat} (h : RdsAt w g a d tk L) (hr : RqOw 37 B w v K) : ∀ j, v.ownBlock = some j → ¬ FtR g a L.length d j := by
  intro j hj
  rcases hr.2 with ⟨hv, _⟩ | ⟨r, cap, cur, hv, _, hb, _⟩
  · rw [hv] at hj; simp [Value.ownBlock] at hj
  · rw [hv] at hj
    injection hj with hj
    subst hj
    exact not_ft h hb (by decide) (by decide)
/-- The program's step. -/
theorem St22.step {w : World} {g b : Nat} {tk : Int} {L : List Rq} {wr w' : World} {a : Option Addr} {d : Nat} {tk' : Int} {L' : List Rq} {a' : Option Addr} {d' : Nat} {lv : Value} (h1 : RdsAt wr g a d tk L) (h2 : ∀ j, (Value.slice a L.length d).ownBlock = some j → w.heap.size ≤ j)
    (h3 : wr.heap[b]? = some (.cells #[.int .u64 tk, lv] 28 (0, 0))) (h4 : RqOw 37 0 wr lv L) (hk : Kept NoB w wr) (gw : w.heap.size ≤ g) (bw : w.heap.size ≤ b)
    (hr : RdsAt w' g a' d' tk' L') (ho : OwnR wr (.slice a L.length d) (.slice a' L'.length d')) (hf : Kept (FtR g a L.length d) wr w') : Mi22 w g b tk L tk' L' w' := by
  have hs := hk.size
  refine ⟨⟨a', d', hr, fun j hj => ?_⟩, ⟨lv, hf.heap (not_ft h1 h3 (by decide) (by decide)) h3, h4.kept hf (rqow_ft h1 h4)⟩, hk.trans hf (fun i hi h => ?_), gw, bw⟩
  · rcases ho j hj with h | h
    · exact h2 j h
    · omega
  · rcases h with h | h
    · omega
    · have := h2 i h.symm; omega
/-- The chapter's step: its variable takes what it told. -/
theorem Mi22.step {w : World} {g b : Nat} {tk : Int} {L : List Rq} {tk' : Int} {L' : List Rq} {w1 w' : World} {lv' : Value} (h : Mi22 w g b tk L tk' L' w1) (hk : Kept NoB w1 w') (hr : RqOw 37 0 w' lv' L') : St22 w g b tk' L' ((w'.setCell ⟨b, 0, none⟩ (.int .u64 tk')).setCell ⟨b, 1, none⟩ lv') := by
  obtain ⟨⟨a, d, h1, h2⟩, ⟨lv, h3, h4⟩, h5, h6, h7⟩ := h.no hk
  have hK : Kept (fun i => i = b) w' ((w'.setCell ⟨b, 0, none⟩ (.int .u64 tk')).setCell ⟨b, 1, none⟩ lv') := ((Kept.refl (fun i => i = b) w').setCell (p := ⟨b, 0, none⟩) (.inl (by show b = b; rfl)) _).setCell (p := ⟨b, 1, none⟩) (.inl (by show b = b; rfl)) _
  have hg : ¬ g = b := fun e => not_ft h1 h3 (by decide) (by decide) (.inl e.symm)
  refine ⟨⟨a, d, ⟨hK.heap hg h1.1, h1.2.kept hK (fun j hj e => ?_)⟩, h2⟩, ⟨lv', by simpa using blkV_set (blkV_set h3 0 (.int .u64 tk')) 1 lv', hr.kept hK (fun j hj e => ?_)⟩, h5.trans hK (fun i hi e => ?_), h6, h7⟩
  · have e : j = b := e
    subst e
    exact row_ne22l h1.2 h3 (by decide) hj
  · have e : j = b := e
    subst e
    exact row_ne22l hr h3 (by decide) hj
  · have e : i = b := e
    omega
/-- The chapter's variable forgets its reads. -/
theorem Mi22.clear {w : World} {g b : Nat} {tk : Int} {L : List Rq} {lv : Value} {w1 : World} (h : Mi22 w g b tk L tk [] w1) (hb : w1.heap[b]? = some (.cells #[.int .u64 tk, lv] 28 (0, 0))) : St22 w g b tk [] (w1.setCell ⟨b, 1, none⟩ (.slice none 0 0)) := by
  obtain ⟨⟨a, d, h1, h2⟩, _, h5, h6, h7⟩ := h
  have hK : Kept (fun i => i = b) w1 (w1.setCell ⟨b, 1, none⟩ (.slice none 0 0)) := (Kept.refl (fun i => i = b) w1).setCell (p := ⟨b, 1, none⟩) (.inl (by show b = b; rfl)) _
  have hg : ¬ g = b := fun e => not_ft h1 hb (by decide) (by decide) (.inl e.symm)
  refine ⟨⟨a, d, ⟨hK.heap hg h1.1, h1.2.kept hK (fun j hj e => ?_)⟩, h2⟩, ⟨.slice none 0 0, by simpa using blkV_set hb 1 (.slice none 0 0), RqOw.nil _ _ _⟩, h5.trans hK (fun i hi e => ?_), h6, h7⟩
  · have e : j = b := e
    subst e
    exact row_ne22l h1.2 hb (by decide) hj
  · have e : i = b := e
    omega
end Go.Proofs.YtnnmkmipeoajjaaGreatDoor
