/-
  Package conf: numbers in a slice: is one in it, are they nodes, none twice.
-/
import Derived.Test.YtajneoaljpljpaaProg
import Derived.Test.YtajneoaljpljpaaCnfD
import Derived.WalkKit
import Derived.WalkSpells
import Derived.WalkLawsBesides
import Derived.RegionTactic
import Derived.BigRegion
import Derived.Deep.QuietTactic
import Derived.BigQuiet
import Derived.Deep.RegionHeld3
import Derived.Deep.AppendLies
import Derived.Deep.RegionLaw
import Derived.ArgAppend
import Derived.StillTailTactics
import Derived.Lib.Hide
import Derived.Outline
import Derived.KernelRfl
namespace Go.Proofs.Ytajneoaljpljpaa
open Go.RowKit
set_option linter.unusedVariables false

theorem len_le {l : List Int} {F : Nat → Prop} {w : World} {a : Option Addr} {n cap : Nat} (h : NSl w F (.slice a n cap) l) : l.length ≤ 9223372036854775807 := by
  have := h.len
  unfold maxLen at this
  omega
/-- The first place of a number, or -1. -/
def idxN (l : List Int) (x : Int) (r : Int) : Prop := (r = -1 ∧ x ∉ l) ∨ (∃ k : Nat, r = k ∧ k < l.length ∧ x ∈ l)
theorem Index_any (v : Value) (l : List Int) (x : Int) (F : Nat → Prop) (w : World) (h : NSl w F v l) :
    Calls Try.prog 23 #[v, .int .i64 x] w fun e w' => (∃ r, e = .returned (.int .i64 r) ∧ idxN l x r) ∧ w = w' := by
  obtain ⟨a, cap, rfl, _⟩ := id h
  have hl := len_le h
  have H := Lib.hid h
  clear h
  go_enter Try.func23, Try.ntmps23
  go_wp2
  go_loop [8] (fun i => ∃ k : Nat, i = .int .i64 k ∧ k ≤ l.length ∧ x ∉ l.take k) (fun i => l.length - (intOf i).toNat)
  case atStart => exact ⟨0, rfl, Nat.zero_le _, by simp⟩
  case round =>
    obtain ⟨k, rfl, hk, hno⟩ := hrel
    have HN := Lib.hid hno
    clear hno
    by_cases hlt : k < l.length
    · obtain ⟨b, o, rfl, _, _, hc⟩ := H.out.at_ hlt
      have HT := Lib.hid (take_one hlt)
      have HA : Hid (l.getD k 0 ∈ l) := Lib.hid (by rw [getD_at hlt]; exact List.getElem_mem _)
      obtain ⟨y, hy⟩ : ∃ y, y = l.getD k 0 := ⟨_, rfl⟩
      rw [← hy] at hc HT HA
      have hk1 : (k : Int) < (l.length : Int) := by omega
      clear hy
      by_cases he : x = y
      · subst he
        go_wp2
        go_ret
        exact ⟨⟨_, rfl, .inr ⟨k, rfl, hlt, HA.out⟩⟩, rfl⟩
      · have hb : ((x : Int) == (y : Int)) = false := by simpa using he
        have HE := Lib.hid he
        clear he
        go_wp2
        go_round
        case rel => exact ⟨k + 1, by go_num, by omega, by
          rw [HT.out]
          simp only [List.mem_append, List.mem_singleton, not_or]
          exact ⟨HN.out, HE.out⟩⟩
        case measure => simp [intOf]; omega
    · obtain rfl : k = l.length := by omega
      go_wp2
      go_ret
      exact ⟨⟨_, rfl, .inl ⟨rfl, by have := HN.out; rwa [List.take_length] at this⟩⟩, rfl⟩
theorem Contains_any (v : Value) (l : List Int) (x : Int) (F : Nat → Prop) (w : World) (h : NSl w F v l) :
    Calls Try.prog 25 #[v, .int .i64 x] w fun e w' => e = .returned (.bool (decide (x ∈ l))) ∧ w = w' := by
  have HI := Lib.hid (Index_any v l x F w h)
  obtain ⟨a, cap, rfl, _⟩ := id h
  clear h
  obtain ⟨d, hd⟩ : ∃ d, d = decide (x ∈ l) := ⟨_, rfl⟩
  rw [← hd]
  have HD := Lib.hid hd
  clear hd
  go_enter Try.func25, Try.ntmps25
  go_wp2_with fail
  refine HI.out.mono ?_
  rintro e w1 ⟨⟨r, rfl, ⟨rfl, hx⟩ | ⟨k, rfl, _, hx⟩⟩, rfl⟩
  · have HX := Lib.hid hx
    clear hx
    go_wp2
    go_ret
    exact ⟨(by rw [HD.out, decide_eq_false HX.out] <;> rfl), rfl⟩
  · have HX := Lib.hid hx
    have hk0 : (0 : Int) ≤ (k : Int) := by omega
    clear hx
    go_wp2
    go_ret
    exact ⟨(by rw [HD.out, decide_eq_true HX.out] <;> rfl), rfl⟩
theorem Has4_any (v : Value) (l : List Int) (x : Int) (F : Nat → Prop) (w : World) (h : NSl w F v l) :
    Calls Try.prog 26 #[v, .int .i64 x] w fun e w' => e = .returned (.bool (decide (x ∈ l))) ∧ w = w' := by
  obtain ⟨a, cap, rfl, _⟩ := id h
  have hl := len_le h
  have H := Lib.hid h
  clear h
  obtain ⟨d, hd⟩ : ∃ d, d = decide (x ∈ l) := ⟨_, rfl⟩
  rw [← hd]
  have HD := Lib.hid hd
  clear hd
  go_enter Try.func26, Try.ntmps26
  go_wp2
  go_loop [5] (fun i => ∃ k : Nat, i = .int .i64 k ∧ k ≤ l.length ∧ x ∉ l.take k) (fun i => l.length - (intOf i).toNat)
  case atStart => exact ⟨0, rfl, Nat.zero_le _, by simp⟩
  case round =>
    obtain ⟨k, rfl, hk, hno⟩ := hrel
    have HN := Lib.hid hno
    clear hno
    by_cases hlt : k < l.length
    · obtain ⟨b, o, rfl, _, _, hc⟩ := H.out.at_ hlt
      have HT := Lib.hid (take_one hlt)
      have HA : Hid (l.getD k 0 ∈ l) := Lib.hid (by rw [getD_at hlt]; exact List.getElem_mem _)
      obtain ⟨y, hy⟩ : ∃ y, y = l.getD k 0 := ⟨_, rfl⟩
      rw [← hy] at hc HT HA
      have hk1 : (k : Int) < (l.length : Int) := by omega
      clear hy
      by_cases he : y = x
      · subst he
        go_wp2
        go_ret
        exact ⟨(by rw [HD.out, decide_eq_true HA.out] <;> rfl), rfl⟩
      · have hb : ((y : Int) == (x : Int)) = false := by simpa using he
        have HE := Lib.hid he
        clear he
        go_wp2
        go_round
        case rel => exact ⟨k + 1, by go_num, by omega, by
          rw [HT.out]
          simp only [List.mem_append, List.mem_singleton, not_or]
          exact ⟨HN.out, fun h => HE.out h.symm⟩⟩
        case measure => simp [intOf]; omega
    · obtain rfl : k = l.length := by omega
      go_wp2
      go_ret
      exact ⟨(by rw [HD.out, decide_eq_false (by have := HN.out; rwa [List.take_length] at this)] <;> rfl), rfl⟩
set_option maxRecDepth 100000 in
theorem different_any (v : Value) (l : List Int) (F : Nat → Prop) (w : World) (h : NSl w F v l) :
    Calls Try.prog 33 #[v] w fun e w' => e = .returned (.bool (unqB l)) ∧ w = w' := by
  obtain ⟨a, cap, rfl, _⟩ := id h
  have hl := len_le h
  have hcap := h.len.2.1
  have H := Lib.hid h
  clear h
  obtain ⟨d, hd⟩ : ∃ d, d = unqB l := ⟨_, rfl⟩
  rw [← hd]
  have HD := Lib.hid hd
  clear hd
  go_enter Try.func33, Try.ntmps33
  go_wp2
  go_loop [7] (fun i => ∃ k : Nat, i = .int .i64 k ∧ k ≤ l.length ∧ Unq (l.take k)) (fun i => l.length - (intOf i).toNat)
  case atStart => exact ⟨0, rfl, Nat.zero_le _, by simpa using unq_nil⟩
  case round =>
    obtain ⟨k, rfl, hk, hu⟩ := hrel
    have HU := Lib.hid hu
    clear hu
    by_cases hlt : k < l.length
    · obtain ⟨b, o, rfl, _, _, hc⟩ := H.out.at_ hlt
      have HS := Lib.hid (fun (h1 : 1 ≤ l.getD k 0) h2 h3 => unq_step hlt HU.out h1 h2 h3)
      have HB := Lib.hid (unq_bad hlt)
      have HC := Lib.hid (fun x => Contains_any _ _ x F w (nsl_take H.out (k := k) (by omega)))
      obtain ⟨y, hy⟩ : ∃ y, y = l.getD k 0 := ⟨_, rfl⟩
      rw [← hy] at hc HS HB
      have hk1 : (k : Int) < (l.length : Int) := by omega
      have hk2 : (k : Int) ≤ (cap : Int) := by omega
      clear hy
      by_cases h1 : y < 1
      · have HE := Lib.hid (HB.out (.inl h1))
        go_wp2
        go_ret
        exact ⟨(by rw [HD.out, HE.out] <;> rfl), rfl⟩
      · by_cases h2 : 24 < y
        · have HE := Lib.hid (HB.out (.inr (.inl h2)))
          have h1' : decide (y < 1) = false := decide_eq_false h1
          go_wp2
          go_ret
          exact ⟨(by rw [HD.out, HE.out] <;> rfl), rfl⟩
        · have h1' : decide (y < 1) = false := decide_eq_false h1
          have h2' : decide (24 < y) = false := decide_eq_false h2
          by_cases h3 : y ∈ l.take k
          · have HE := Lib.hid (HB.out (.inr (.inr h3)))
            have HCY := Lib.hid (HC.out y)
            rw [decide_eq_true h3] at HCY
            clear HC h1 h2 h3
            go_wp2_with (go_at_call 25; refine HCY.out.mono ?_; rintro e w' ⟨rfl, rfl⟩)
            go_ret
            exact ⟨(by rw [HD.out, HE.out] <;> rfl), rfl⟩
          · have HE := Lib.hid (HS.out (by omega) (by omega) h3)
            have HCY := Lib.hid (HC.out y)
            rw [decide_eq_false h3] at HCY
            clear HC h1 h2 h3
            go_wp2_with (go_at_call 25; refine HCY.out.mono ?_; rintro e w' ⟨rfl, rfl⟩)
            go_round
            case rel => exact ⟨k + 1, by go_num, by omega, HE.out⟩
            case measure => simp [intOf]; omega
    · obtain rfl : k = l.length := by omega
      go_wp2
      go_ret
      exact ⟨(by rw [HD.out, unq_all HU.out] <;> rfl), rfl⟩
end Go.Proofs.Ytajneoaljpljpaa
