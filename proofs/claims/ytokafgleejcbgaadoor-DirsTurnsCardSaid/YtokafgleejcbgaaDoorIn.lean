/-
  What each call on a fix.In does: contracts over the program.
-/
import Derived.Test.YtokafgleejcbgaaDoorOut
import Derived.Test.YtokafgleejcbgaaDoorBytes
import Derived.Test.YtokafgleejcbgaaDoorOutB
namespace Go.Proofs.YtokafgleejcbgaaDoor
open Go.RowKit

/-- Block g alone. -/
def Only (g : Nat) : Nat → Prop := fun k => k = g
theorem Kept.only {g : Nat} {a w : World} (h : Kept (Only g) a w) (o : Nat) (u : Value) : Kept (Only g) a (w.setCell ⟨g, o, none⟩ u) := h.setCell (p := ⟨g, o, none⟩) (.inl (by show g = g; rfl)) u

/-- What an In is: the bytes that are left, the first error. -/
structure ISt where
  l : List Int
  err : Int

def ISt.fail (s : ISt) (e : Int) : ISt := if s.err = 0 then ⟨[], e⟩ else s
def ISt.raw (s : ISt) (n : Int) : ISt × List Int :=
  if s.err = 0 then (if n < 0 then (⟨[], 1⟩, []) else if (s.l.length : Int) < n then (⟨[], 3⟩, []) else (⟨s.l.drop n.toNat, 0⟩, s.l.take n.toNat)) else (s, [])
def ISt.upto (s : ISt) (width most : Int) : ISt × Int :=
  if width < 1 ∨ 8 < width then (s.fail 1, 0) else if (s.raw width).1.err = 0 then (if most < num (s.raw width).2 then (⟨[], 4⟩, 0) else ((s.raw width).1, num (s.raw width).2)) else ((s.raw width).1, 0)
def ISt.get (s : ISt) (width : Int) : ISt × Int :=
  if width < 1 ∨ 8 < width then (s.fail 1, 0) else ((s.raw width).1, num (s.raw width).2)
def ISt.text (s : ISt) (most : Int) : ISt × List Int :=
  if (s.get 2).1.err = 0 then (if most < (s.get 2).2 then (⟨[], 6⟩, []) else (s.get 2).1.raw (s.get 2).2) else ((s.get 2).1, [])
def ISt.done (s : ISt) : Int := if s.err = 0 ∧ 0 < s.l.length then 4 else s.err
/-- Behind an error nothing is left. -/
def ISt.ok (s : ISt) : Prop := (s.err ≠ 0 → s.l = []) ∧ 0 ≤ s.err ∧ s.err < 100

theorem ISt.fail_ok {s : ISt} (h : s.ok) {e : Int} (he : 0 < e) (he2 : e < 100) : (s.fail e).ok := by
  unfold ISt.fail
  split
  · exact ⟨fun _ => rfl, by show 0 ≤ e; omega, he2⟩
  · exact h
theorem ISt.raw_ok {s : ISt} (h : s.ok) (n : Int) : (s.raw n).1.ok := by
  unfold ISt.raw
  split
  · split
    · exact ⟨fun _ => rfl, by decide, by decide⟩
    · split
      · exact ⟨fun _ => rfl, by decide, by decide⟩
      · exact ⟨fun h => absurd rfl h, by show (0 : Int) ≤ 0; omega, by show (0 : Int) < 100; omega⟩
  · exact h

/-- next. -/
def ISt.next (s : ISt) (n : Nat) : ISt × List Int := if n ≤ s.l.length then (⟨s.l.drop n, s.err⟩, s.l.take n) else (s.fail 3, [])
theorem ISt.next_raw (s : ISt) (h : s.ok) (n : Nat) : s.next n = s.raw n := by
  obtain ⟨l, err⟩ := s
  unfold ISt.next ISt.raw ISt.fail
  simp only
  by_cases he : err = 0
  · subst he
    by_cases hn : n ≤ l.length
    · rw [if_pos hn, if_pos rfl, if_neg (by omega), if_neg (by omega), Int.toNat_natCast]
    · rw [if_neg hn, if_pos rfl, if_pos rfl, if_neg (by omega), if_pos (by omega)]
  · have hl : l = [] := h.1 he
    subst hl
    by_cases hn : n ≤ ([] : List Int).length
    · have : n = 0 := by simpa using hn
      subst this
      rw [if_pos hn, if_neg he]
      rfl
    · rw [if_neg hn, if_neg he, if_neg he]

end Go.Proofs.YtokafgleejcbgaaDoor
