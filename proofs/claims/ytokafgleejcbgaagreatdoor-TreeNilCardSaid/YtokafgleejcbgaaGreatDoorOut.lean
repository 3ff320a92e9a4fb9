/-
  What each call on a fix.Out does: contracts over the program.
-/
import Derived.Test.YtokafgleejcbgaaGreatDoorProg
import Derived.Test.YtokafgleejcbgaaGreatDoorBase
import Derived.WalkKit
import Derived.WalkSpells
import Derived.WalkLawsBesides
import Derived.RegionTactic
import Derived.BigRegion
import Derived.Deep.QuietTactic
import Derived.BigQuiet
import Derived.Deep.RegionHeld3
import Derived.Deep.AppendLies
import Derived.Deep.RegionLaw
import Derived.Deep.DeepMust
import Derived.Lib.Hide
import Derived.Outline
import Derived.KernelRfl
namespace Go.Proofs.YtokafgleejcbgaaGreatDoor
open Go.RowKit

/-- What an Out is: its bytes, how many it may have, its first error. -/
structure OSt where
  bs : List Int
  most : Int
  err : Int

/-- fail. -/
def OSt.fail (s : OSt) (e : Int) : OSt := if s.err = 0 then ⟨[], s.most, e⟩ else s

/-- fits. -/
def OSt.fit (s : OSt) (n : Int) : OSt := if n ≤ s.most - s.bs.length then s else s.fail 6
def OSt.fitB (s : OSt) (n : Int) : Bool := decide (n ≤ s.most - s.bs.length) && decide (s.err = 0)
theorem ret_bool {a b : Bool} (h : a = b) : Ending.returned (.bool a) = .returned (.bool b) := by rw [h]

theorem Tryz.info5 : (Tryz.prog.info? 5).map (fun i => (i.zero, i.size, i.bytes)) = some (some (.int .u8 0), 1, 1) := by kernel_rfl

theorem shr_byte (n : Int) (j : Nat) (hn : 0 ≤ n) : IntKind.u8.wrap (n / 2 ^ (8 * (j : Int)).toNat) = ((n.toNat / 256 ^ j % 256 : Nat) : Int) := by
  obtain ⟨m, rfl⟩ := Int.eq_ofNat_of_zero_le hn
  have e : (8 * (j : Int)).toNat = 8 * j := by omega
  have e2 : ((2 : Int) ^ (8 * j)) = ((256 ^ j : Nat) : Int) := by
    rw [show (256 : Nat) = 2 ^ 8 from rfl, ← Nat.pow_mul, Int.natCast_pow]
    rfl
  show (m : Int) / 2 ^ (8 * (j : Int)).toNat % 256 = _
  rw [e, e2, Int.toNat_natCast]
  omega

/-- What putting something does: an error of its own, or bytes. -/
def OSt.emit (s : OSt) (e : Int) (l : List Int) : OSt :=
  if s.err = 0 then (if e = 0 then (if (l.length : Int) ≤ s.most - s.bs.length then ⟨s.bs ++ l, s.most, 0⟩ else ⟨[], s.most, 6⟩) else ⟨[], s.most, e⟩) else s
def putErr (n width : Int) : Int := if width < 1 ∨ 8 < width then 1 else if n.toNat / 256 ^ width.toNat = 0 then 0 else 4

theorem OSt.emit_err (s : OSt) (e : Int) (l : List Int) (he : e ≠ 0) : s.emit e l = s.fail e := by
  unfold OSt.emit OSt.fail
  simp [he]
theorem OSt.emit_fit (s : OSt) (l : List Int) (h : s.fitB l.length = true) : s.emit 0 l = ⟨s.bs ++ l, s.most, 0⟩ ∧ s.fit l.length = s ∧ s.err = 0 := by
  simp only [OSt.fitB, Bool.and_eq_true, decide_eq_true_eq] at h
  simp [OSt.emit, OSt.fit, h.1, h.2]
theorem OSt.emit_nofit (s : OSt) (l : List Int) (h : s.fitB l.length = false) : s.emit 0 l = s.fit l.length := by
  simp only [OSt.fitB, Bool.and_eq_false_iff, decide_eq_false_iff_not] at h
  simp only [OSt.emit, OSt.fit, OSt.fail, if_true]
  by_cases he : s.err = 0
  · rcases h with h | h
    · rw [if_pos he, if_neg h, if_neg h, if_pos he]
    · exact absurd he h
  · rw [if_neg he]
    split <;> rfl

theorem shr_zero (n : Int) (width : Nat) (hn : 0 ≤ n) : n / 2 ^ (8 * width) = ((n.toNat / 256 ^ width : Nat) : Int) := by
  obtain ⟨m, rfl⟩ := Int.eq_ofNat_of_zero_le hn
  have e2 : ((2 : Int) ^ (8 * width)) = ((256 ^ width : Nat) : Int) := by
    rw [show (256 : Nat) = 2 ^ 8 from rfl, ← Nat.pow_mul, Int.natCast_pow]
    rfl
  rw [e2, Int.toNat_natCast]
  omega

end Go.Proofs.YtokafgleejcbgaaGreatDoor
