/-
  Package conf: numbers in a slice: is one in it, are they nodes, none twice.
-/
import Derived.Test.YtbacnkndllifaaaProg
import Derived.Test.YtbacnkndllifaaaCnfD
import Derived.WalkKit
import Derived.WalkSpells
import Derived.WalkLawsBesides
import Derived.RegionTactic
import Derived.BigRegion
import Derived.Deep.QuietTactic
import Derived.BigQuiet
import Derived.Deep.RegionHeld3
import Derived.Deep.AppendLies
import Derived.Deep.RegionLaw
import Derived.ArgAppend
import Derived.StillTailTactics
import Derived.Lib.Hide
import Derived.Outline
import Derived.KernelRfl
namespace Go.Proofs.Ytbacnkndllifaaa
open Go.RowKit
set_option linter.unusedVariables false

theorem len_le {l : List Int} {F : Nat → Prop} {w : World} {a : Option Addr} {n cap : Nat} (h : NSl w F (.slice a n cap) l) : l.length ≤ 9223372036854775807 := by
  have := h.len
  unfold maxLen at this
  omega
/-- The first place of a number, or -1. -/
def idxN (l : List Int) (x : Int) (r : Int) : Prop := (r = -1 ∧ x ∉ l) ∨ (∃ k : Nat, r = k ∧ k < l.length ∧ x ∈ l)
theorem Index_any (v : Value) (l : List Int) (x : Int) (F : Nat → Prop) (w : World) (h : NSl w F v l) :
    Calls Try.prog 87 #[v, .int .i64 x] w fun e w' => (∃ r, e = .returned (.int .i64 r) ∧ idxN l x r) ∧ w = w' := by
  obtain ⟨a, cap, rfl, _⟩ := id h
  have hl := len_le h
  have H := Lib.hid h
  clear h
  go_enter Try.func87, Try.ntmps87
  go_wp2
  go_loop [8] (fun i => ∃ k : Nat, i = .int .i64 k ∧ k ≤ l.length ∧ x ∉ l.take k) (fun i => l.length - (intOf i).toNat)
  case atStart => exact ⟨0, rfl, Nat.zero_le _, by simp⟩
  case round =>
    obtain ⟨k, rfl, hk, hno⟩ := hrel
    have HN := Lib.hid hno
    clear hno
    by_cases hlt : k < l.length
    · obtain ⟨b, o, rfl, _, _, hc⟩ := H.out.at_ hlt
      have HT := Lib.hid (take_one hlt)
      have HA : Hid (l.getD k 0 ∈ l) := Lib.hid (by rw [getD_at hlt]; exact List.getElem_mem _)
      obtain ⟨y, hy⟩ : ∃ y, y = l.getD k 0 := ⟨_, rfl⟩
      rw [← hy] at hc HT HA
      have hk1 : (k : Int) < (l.length : Int) := by omega
      clear hy
      by_cases he : x = y
      · subst he
        go_wp2
        go_ret
        exact ⟨⟨_, rfl, .inr ⟨k, rfl, hlt, HA.out⟩⟩, rfl⟩
      · have hb : ((x : Int) == (y : Int)) = false := by simpa using he
        have HE := Lib.hid he
        clear he
        go_wp2
        go_round
        case rel => exact ⟨k + 1, by go_num, by omega, by
          rw [HT.out]
          simp only [List.mem_append, List.mem_singleton, not_or]
          exact ⟨HN.out, HE.out⟩⟩
        case measure => simp [intOf]; omega
    · obtain rfl : k = l.length := by omega
      go_wp2
      go_ret
      exact ⟨⟨_, rfl, .inl ⟨rfl, by have := HN.out; rwa [List.take_length] at this⟩⟩, rfl⟩
theorem Contains_any (v : Value) (l : List Int) (x : Int) (F : Nat → Prop) (w : World) (h : NSl w F v l) :
    Calls Try.prog 74 #[v, .int .i64 x] w fun e w' => e = .returned (.bool (decide (x ∈ l))) ∧ w = w' := by
  have HI := Lib.hid (Index_any v l x F w h)
  obtain ⟨a, cap, rfl, _⟩ := id h
  clear h
  obtain ⟨d, hd⟩ : ∃ d, d = decide (x ∈ l) := ⟨_, rfl⟩
  rw [← hd]
  have HD := Lib.hid hd
  clear hd
  go_enter Try.func74, Try.ntmps74
  go_wp2_with fail
  refine HI.out.mono ?_
  rintro e w1 ⟨⟨r, rfl, ⟨rfl, hx⟩ | ⟨k, rfl, _, hx⟩⟩, rfl⟩
  · have HX := Lib.hid hx
    clear hx
    go_wp2
    go_ret
    exact ⟨(by rw [HD.out, decide_eq_false HX.out] <;> rfl), rfl⟩
  · have HX := Lib.hid hx
    have hk0 : (0 : Int) ≤ (k : Int) := by omega
    clear hx
    go_wp2
    go_ret
    exact ⟨(by rw [HD.out, decide_eq_true HX.out] <;> rfl), rfl⟩
theorem Has4_any (v : Value) (l : List Int) (x : Int) (F : Nat → Prop) (w : World) (h : NSl w F v l) :
    Calls Try.prog 62 #[v, .int .i64 x] w fun e w' => e = .returned (.bool (decide (x ∈ l))) ∧ w = w' := by
  obtain ⟨a, cap, rfl, _⟩ := id h
  have hl := len_le h
  have H := Lib.hid h
  clear h
  obtain ⟨d, hd⟩ : ∃ d, d = decide (x ∈ l) := ⟨_, rfl⟩
  rw [← hd]
  have HD := Lib.hid hd
  clear hd
  go_enter Try.func62, Try.ntmps62
  go_wp2
  go_loop [5] (fun i => ∃ k : Nat, i = .int .i64 k ∧ k ≤ l.length ∧ x ∉ l.take k) (fun i => l.length - (intOf i).toNat)
  case atStart => exact ⟨0, rfl, Nat.zero_le _, by simp⟩
  case round =>
    obtain ⟨k, rfl, hk, hno⟩ := hrel
    have HN := Lib.hid hno
    clear hno
    by_cases hlt : k < l.length
    · obtain ⟨b, o, rfl, _, _, hc⟩ := H.out.at_ hlt
      have HT := Lib.hid (take_one hlt)
      have HA : Hid (l.getD k 0 ∈ l) := Lib.hid (by rw [getD_at hlt]; exact List.getElem_mem _)
      obtain ⟨y, hy⟩ : ∃ y, y = l.getD k 0 := ⟨_, rfl⟩
      rw [← hy] at hc HT HA
      have hk1 : (k : Int) < (l.length : Int) := by omega
      clear hy
      by_cases he : y = x
      · subst he
        go_wp2
        go_ret
        exact ⟨(by rw [HD.out, decide_eq_true HA.out] <;> rfl), rfl⟩
      · have hb : ((y : Int) == (x : Int)) = false := by simpa using he
        have HE := Lib.hid he
        clear he
        go_wp2
        go_round
        case rel => exact ⟨k + 1, by go_num, by omega, by
          rw [HT.out]
          simp only [List.mem_append, List.mem_singleton, not_or]
          exact ⟨HN.out, fun h => HE.out h.symm⟩⟩
        case measure => simp [intOf]; omega
    · obtain rfl : k = l.length := by omega
      go_wp2
      go_ret
      exact ⟨(by rw [HD.out, decide_eq_false (by have := HN.out; rwa [List.take_length] at this)] <;> rfl), rfl⟩
end Go.Proofs.Ytbacnkndllifaaa
