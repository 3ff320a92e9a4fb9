/-
  What each call on a fix.In does: contracts over the program.
-/
import Derived.Test.YtiifkcjngajegaaDoorOut
import Derived.Test.YtiifkcjngajegaaDoorBytes
import Derived.Test.YtiifkcjngajegaaDoorOutB
namespace Go.Proofs.YtiifkcjngajegaaDoor
open Go.RowKit

/-- Block g alone. -/
def Only (g : Nat) : Nat → Prop := fun k => k = g
theorem Kept.only {g : Nat} {a w : World} (h : Kept (Only g) a w) (o : Nat) (u : Value) : Kept (Only g) a (w.setCell ⟨g, o, none⟩ u) := h.setCell (p := ⟨g, o, none⟩) (.inl (by show g = g; rfl)) u

/-- What an In is: the bytes that are left, the first error. -/
structure ISt where
  l : List Int
  err : Int

def ISt.fail (s : ISt) (e : Int) : ISt := if s.err = 0 then ⟨[], e⟩ else s
def ISt.raw (s : ISt) (n : Int) : ISt × List Int :=
  if s.err = 0 then (if n < 0 then (⟨[], 1⟩, []) else if (s.l.length : Int) < n then (⟨[], 3⟩, []) else (⟨s.l.drop n.toNat, 0⟩, s.l.take n.toNat)) else (s, [])
def ISt.upto (s : ISt) (width most : Int) : ISt × Int :=
  if width < 1 ∨ 8 < width then (s.fail 1, 0) else if (s.raw width).1.err = 0 then (if most < num (s.raw width).2 then (⟨[], 4⟩, 0) else ((s.raw width).1, num (s.raw width).2)) else ((s.raw width).1, 0)
def ISt.get (s : ISt) (width : Int) : ISt × Int :=
  if width < 1 ∨ 8 < width then (s.fail 1, 0) else ((s.raw width).1, num (s.raw width).2)
def ISt.text (s : ISt) (most : Int) : ISt × List Int :=
  if (s.get 2).1.err = 0 then (if most < (s.get 2).2 then (⟨[], 6⟩, []) else (s.get 2).1.raw (s.get 2).2) else ((s.get 2).1, [])
def ISt.done (s : ISt) : Int := if s.err = 0 ∧ 0 < s.l.length then 4 else s.err
/-- Behind an error nothing is left. -/
def ISt.ok (s : ISt) : Prop := (s.err ≠ 0 → s.l = []) ∧ 0 ≤ s.err ∧ s.err < 100

theorem ISt.fail_ok {s : ISt} (h : s.ok) {e : Int} (he : 0 < e) (he2 : e < 100) : (s.fail e).ok := by
  unfold ISt.fail
  split
  · exact ⟨fun _ => rfl, by show 0 ≤ e; omega, he2⟩
  · exact h
theorem ISt.raw_ok {s : ISt} (h : s.ok) (n : Int) : (s.raw n).1.ok := by
  unfold ISt.raw
  split
  · split
    · exact ⟨fun _ => rfl, by decide, by decide⟩
    · split
      · exact ⟨fun _ => rfl, by decide, by decide⟩
      · exact ⟨fun h => absurd rfl h, by show (0 : Int) ≤ 0; omega, by show (0 : Int) < 100; omega⟩
  · exact h

def InAt (w : World) (F : Nat → Prop) (g : Nat) (s : ISt) : Prop :=
  ¬ F g ∧ s.ok ∧ ∃ v, w.heap[g]? = some (.cells #[v, .int .i64 s.err] 96 (0, 0)) ∧ BSl w F v s.l

theorem InAt.kept {S F : Nat → Prop} {w w' : World} {g : Nat} {s : ISt} (h : InAt w F g s) (hk : Kept S w w') (hs : ∀ k, F k → ¬ S k) (hg : ¬ S g) : InAt w' F g s := by
  obtain ⟨h1, h2, v, hv, hb⟩ := h
  exact ⟨h1, h2, v, hk.heap hg hv, hb.kept hk hs⟩
theorem InAt.drewN {w : World} {F : Nat → Prop} {g : Nat} {s : ISt} (h : InAt w F g s) (n : Nat) : InAt (w.drewN n) F g s := h
theorem InAt.cells {w : World} {F : Nat → Prop} {g : Nat} {s : ISt} (h : InAt w F g s) : ∃ a cap, w.cell? ⟨g, 0, none⟩ = some (.slice a s.l.length cap) ∧ w.cell? ⟨g, 1, none⟩ = some (.int .i64 s.err) ∧ (∀ o, w.frozen? ⟨g, o, none⟩ = false) ∧
    s.l.length ≤ cap ∧ cap ≤ maxLen ∧ (a = none → cap = 0) ∧ Rd w F a s.l ∧ w.heap[g]? = some (.cells #[.slice a s.l.length cap, .int .i64 s.err] 96 (0, 0)) := by
  obtain ⟨h1, h2, v, hv, a, cap, rfl, hc, hm, hn, hr⟩ := h
  exact ⟨a, cap, cell_of_row w g 0 _ _ _ hv, cell_of_row w g 1 _ _ _ hv, fun o => by simp [World.frozen?, hv], hc, hm, hn, hr, hv⟩
/-- A store of the rest. -/
theorem InAt.store {w : World} {F : Nat → Prop} {g : Nat} {s : ISt} {v : Value} {l : List Int} (h : InAt w F g s) (hb : BSl w F v l) (he : s.err ≠ 0 → l = []) : InAt (w.setCell ⟨g, 0, none⟩ v) F g ⟨l, s.err⟩ := by
  obtain ⟨h1, h2, u, hu, _⟩ := h
  refine ⟨h1, ⟨he, h2.2⟩, v, ?_, ?_⟩
  · simp [World.setCell, Array.getElem?_modify, hu]
  · have hk : Kept (Only g) w (w.setCell ⟨g, 0, none⟩ v) := (Kept.refl _ _).only 0 v
    exact hb.kept hk (fun k hk e => h1 (by have e : k = g := e; rw [← e]; exact hk))

/-- Of. -/
theorem Of_any (v : Value) (l : List Int) (F : Nat → Prop) (w : World) (h : BSl w F v l) (hl : l.length ≤ 1000000) :
    Calls Tryd.prog 43 #[v] w fun e w' => ∃ g, e = .returned (.pointer (some ⟨g, 0, none⟩)) ∧ w.heap.size ≤ g ∧ g < w'.heap.size ∧ InAt w' (fun k => w.heap.size ≤ k ∧ k < g) g ⟨l, 0⟩ ∧ Kept NoB w w' := by
  have HB := Lib.hid h
  obtain ⟨a, cap, rfl, hc, hm, hn, hr⟩ := h
  clear hn hr
  go_enter Tryd.func43, Tryd.ntmps43
  go_wp2_with fail
  refine (Clone_any _ l F _ HB.out hl).mono ?_
  rintro e w1 ⟨v', rfl, hv', hk1⟩
  have HV := Lib.hid hv'
  have HK := Lib.hid hk1
  obtain ⟨a', cap', rfl, hc', hm', hn', hr'⟩ := hv'
  clear hn' hr' hk1
  go_wp2
  go_ret
  have hsz := HK.out.size
  refine ⟨w1.heap.size, rfl, hsz, by simp, ⟨fun h => by omega, ⟨fun h => absurd rfl h, Int.le_refl _, by show (0 : Int) < 100; omega⟩, _, heap_alloc_new w1 _, ?_⟩, HK.out.alloc _⟩
  have hk : Kept NoB w1 (w1.alloc (.cells #[.slice a' l.length cap', .int .i64 0] 96)) := (Kept.refl _ _).alloc _
  exact (HV.out.mono (fun k h1 h2 => ⟨h2, h1⟩)).kept hk (fun _ _ h => h)

/-- fail. -/
theorem InFail_any (g : Nat) (s : ISt) (e : Int) (F : Nat → Prop) (w : World) (h : InAt w F g s) (he : 0 < e) (he2 : e < 100) :
    Calls Tryd.prog 64 #[.pointer (some ⟨g, 0, none⟩), .int .i64 e] w fun r w' => r = .returned (.tuple #[]) ∧
      InAt w' F g (s.fail e) ∧ Kept (Only g) w w' := by
  obtain ⟨l, err⟩ := s
  have HO := Lib.hid h
  obtain ⟨a, cap, c0, c1, hfz, _, _, _, _, hv⟩ := h.cells
  have f0 := hfz 0
  have f1 := hfz 1
  have HV := Lib.hid hv
  clear hv hfz h
  simp only at c0 c1
  by_cases h0 : err = 0
  · subst h0
    go_enter Tryd.func64, Tryd.ntmps64
    go_wp2
    go_end0
    refine ⟨rfl, ?_, ((Kept.refl _ _).only 1 _).only 0 _⟩
    obtain ⟨h1, h2, _⟩ := HO.out
    refine ⟨h1, ISt.fail_ok (s := ⟨l, 0⟩) h2 he he2, .slice none 0 0, ?_, BSl.nil _ _⟩
    have := HV.out
    simp [World.setCell, Array.getElem?_modify, this, ISt.fail]
  · have hb : (err == 0) = false := by simpa using h0
    go_enter Tryd.func64, Tryd.ntmps64
    go_wp2
    go_end0
    refine ⟨rfl, ?_, Kept.refl _ _⟩
    have := HO.out
    simpa [ISt.fail, h0] using this

/-- next. -/
def ISt.next (s : ISt) (n : Nat) : ISt × List Int := if n ≤ s.l.length then (⟨s.l.drop n, s.err⟩, s.l.take n) else (s.fail 3, [])
theorem ISt.next_raw (s : ISt) (h : s.ok) (n : Nat) : s.next n = s.raw n := by
  obtain ⟨l, err⟩ := s
  unfold ISt.next ISt.raw ISt.fail
  simp only
  by_cases he : err = 0
  · subst he
    by_cases hn : n ≤ l.length
    · rw [if_pos hn, if_pos rfl, if_neg (by omega), if_neg (by omega), Int.toNat_natCast]
    · rw [if_neg hn, if_pos rfl, if_pos rfl, if_neg (by omega), if_pos (by omega)]
  · have hl : l = [] := h.1 he
    subst hl
    by_cases hn : n ≤ ([] : List Int).length
    · have : n = 0 := by simpa using hn
      subst this
      rw [if_pos hn, if_neg he]
      rfl
    · rw [if_neg hn, if_neg he, if_neg he]

theorem next_any (g : Nat) (s : ISt) (n : Nat) (F : Nat → Prop) (w : World) (h : InAt w F g s) (hn : n ≤ 9223372036854775807) :
    Calls Tryd.prog 65 #[.pointer (some ⟨g, 0, none⟩), .int .i64 n] w fun r w' => ∃ v, r = .returned v ∧
      InAt w' F g (s.raw n).1 ∧ BSl w' F v (s.raw n).2 ∧ Kept (Only g) w w' := by
  rw [← ISt.next_raw s h.2.1]
  have HO := Lib.hid h
  obtain ⟨a, cap, c0, c1, hfz, hc, hm, hnn, hr, _⟩ := h.cells
  have f0 := hfz 0
  have HR := Lib.hid hr
  have HNN := Lib.hid hnn
  clear hfz h hr hnn
  by_cases hle : n ≤ s.l.length
  · have HN := Lib.hid (show s.next n = (⟨s.l.drop n, s.err⟩, s.l.take n) from if_pos hle)
    go_enter Tryd.func65, Tryd.ntmps65
    go_wp2
    all_goals
      go_ret
      have hcut := bsl_drop (n := n) hc hm HNN.out HR.out
      have htake := bsl_take3 hc hm HNN.out HR.out hle
      first
        | (have hcap : ¬ cap = n := by assumption
           rw [if_neg hcap] at hcut)
        | (have hcap : cap = n := by assumption
           rw [if_pos hcap, show cap - n = 0 by omega] at hcut)
      have hs := HO.out.store hcut (fun he => by rw [HO.out.2.1.1 he]; simp)
      have hk := fun v => (Kept.refl (Only g) w).only 0 v
      rw [HN.out]
      exact ⟨.slice a n n, rfl, hs, htake.kept (hk _) (fun k hk e => HO.out.1 (by have e : k = g := e; rw [← e]; exact hk)), hk _⟩
  · have HN := Lib.hid (show s.next n = (s.fail 3, []) from if_neg hle)
    go_enter Tryd.func65, Tryd.ntmps65
    go_wp2_with fail
    refine (InFail_any g s 3 F _ HO.out (by omega) (by omega)).mono ?_
    rintro e w1 ⟨rfl, hO1, hk1⟩
    have HO1 := Lib.hid hO1
    clear hO1
    go_wp2
    go_ret
    refine ⟨_, rfl, ?_, ?_, hk1⟩
    · rw [HN.out]; exact HO1.out
    · rw [HN.out]; exact BSl.nil _ _
end Go.Proofs.YtiifkcjngajegaaDoor
