/-
  Package ballot and its answer: With, and the set of numbers.
-/
import Derived.Test.YtidhaofojcdbaaaBalG
import Derived.Test.YtidhaofojcdbaaaBalS
namespace Go.Proofs.Ytidhaofojcdbaaa
open Go.RowKit
set_option linter.unusedVariables false

/-- A slice that reads as these numbers. -/
def RdI (w : World) (v : Value) (l : List Int) : Prop :=
  ∃ a c, v = .slice a l.length c ∧ (a = none → c = 0) ∧ ∀ i, i < l.length → ∃ b o, a = some ⟨b, o, none⟩ ∧ b < w.heap.size ∧ w.cell? ⟨b, o + i, none⟩ = some (.int .i64 (l.getD i 0))
theorem RdI.kept {w w' : World} {v : Value} {l : List Int} (h : RdI w v l) (hk : Kept NoB w w') : RdI w' v l := by
  obtain ⟨a, c, hv, hn, hc⟩ := h
  refine ⟨a, c, hv, hn, fun i hi => ?_⟩
  obtain ⟨b, o, ha, hb, hx⟩ := hc i hi
  exact ⟨b, o, ha, Nat.lt_of_lt_of_le hb hk.size, hk.cell (p := ⟨b, o + i, none⟩) (fun h => h) hx⟩
theorem wrap_pow (i : Int) (h1 : 1 ≤ i) (h2 : i < 64) : IntKind.u64.wrap ((2 : Int) ^ i.toNat) = ((2 ^ i.toNat : Nat) : Int) := by
  have h : 2 ^ i.toNat < 2 ^ 64 := Nat.pow_lt_pow_right (by omega) (by omega)
  have e : ((2 ^ i.toNat : Nat) : Int) = (2 : Int) ^ i.toNat := by simp
  rw [← e]
  generalize 2 ^ i.toNat = n at h
  exact IntWalk.u64_in _ (by omega)
theorem bWith_any (s : Nat) (v : Value) (l : List Int) (w : World) (hs : s < 18446744073709551616) (h : RdI w v l) (hl : l.length ≤ 1000) :
    Calls Try.prog 58 #[.int .u64 s, v] w fun e w' => e = .returned (.int .u64 (clr (ors s l) : Nat)) ∧ w = w' := by
  obtain ⟨a, c, rfl, _, hc⟩ := h
  have HC := Lib.hid hc
  clear hc
  go_enter Try.func58, Try.ntmps58
  go_wp2
  go_loop [0, 9] (fun q i => ∃ k : Nat, k ≤ l.length ∧ i = .int .i64 k ∧ q = .int .u64 (ors s (l.take k) : Nat)) (fun _ i => l.length - (intOf i).toNat)
  case atStart => exact ⟨0, by omega, rfl, rfl⟩
  case round =>
    obtain ⟨k, hk, rfl, rfl⟩ := hrel
    have hq := ors_lt (l.take k) s hs
    obtain ⟨q, hq2⟩ : ∃ q, q = ors s (l.take k) := ⟨_, rfl⟩
    rw [← hq2] at hq ⊢
    have HQ := Lib.hid hq2
    clear hq2
    by_cases hlt : k < l.length
    · obtain ⟨b, o, rfl, hb, hcell⟩ := HC.out k hlt
      have HS : Hid (ors s (l.take (k + 1)) = or1 q (l.getD k 0)) := Lib.hid (by rw [ors_take l s k hlt, ← HQ.out])
      obtain ⟨x, hx⟩ : ∃ x, x = l.getD k 0 := ⟨_, rfl⟩
      rw [← hx] at hcell HS
      clear hx
      by_cases hr : 1 ≤ x ∧ x < 64
      · have HN := Lib.hid (can_yes x w hr.1 hr.2)
        have HS' : Hid (ors s (l.take (k + 1)) = (q ||| 2 ^ x.toNat)) := Lib.hid (by rw [HS.out]; unfold or1; rw [if_pos hr])
        obtain ⟨h1, h2⟩ := hr
        have F := u64_or_nat q (2 ^ x.toNat) hq (by show 2 ^ x.toNat < 2 ^ 64; exact Nat.pow_lt_pow_right (by omega) (by omega))
        clear HS
        go_wp2_with (go_at_call 95; refine HN.out.mono ?_; rintro e w' ⟨rfl, rfl⟩)
        go_round
        case rel => exact ⟨k + 1, by omega, by go_num, by rw [HS'.out, wrap_pow x h1 h2, F]⟩
        case measure => simp [intOf]; omega
      · have HN := Lib.hid (can_no x w (by omega))
        have HS' : Hid (ors s (l.take (k + 1)) = q) := Lib.hid (by rw [HS.out]; unfold or1; rw [if_neg hr])
        clear HS hr
        go_wp2_with (go_at_call 95; refine HN.out.mono ?_; rintro e w' ⟨rfl, rfl⟩)
        go_round
        case rel => exact ⟨k + 1, by omega, by go_num, by rw [HS'.out]⟩
        case measure => simp [intOf]; omega
    · obtain rfl : k = l.length := by omega
      have F := u64_andNot_nat q 1 hq (by decide)
      rw [and_not_one q hq] at F
      have F' : bits BinOp.andNot IntKind.u64 (q : Int) 1 = ((clr q : Nat) : Int) := F
      have HE : Hid (q = ors s l) := Lib.hid (by rw [HQ.out, List.take_length])
      clear F hq HQ
      go_wp2
      go_ret
      exact ⟨by rw [HE.out]; rfl, rfl⟩

theorem wrap_add {q k : Nat} (hq : q < 2 ^ k) (hk : k ≤ 63) : IntKind.u64.wrap ((q : Int) + IntKind.u64.wrap ((2 : Int) ^ k)) = ((q + 2 ^ k : Nat) : Int) := by
  have h : 2 ^ k ≤ 2 ^ 63 := Nat.pow_le_pow_right (by omega) (by omega)
  have e : ((2 ^ k : Nat) : Int) = (2 : Int) ^ k := by simp
  rw [← e]
  generalize 2 ^ k = n at hq h
  rw [IntWalk.u64_in (n : Int) (by omega), IntWalk.u64_in _ (by omega)]
  simp
/-- Within one round of the numbers: the bit k is set as soon as k was seen. -/
def half1 (p : Nat) (l : List Int) (k m : Nat) : Nat := p + if (k : Int) ∈ l.take m then 2 ^ k else 0
theorem half1_bit {p : Nat} {l : List Int} {k m : Nat} (hp : p < 2 ^ k) : (half1 p l k m).testBit k = decide ((k : Int) ∈ l.take m) := by
  unfold half1
  by_cases h : (k : Int) ∈ l.take m
  · rw [if_pos h, Nat.add_comm]
    have e : 2 ^ k + p = 2 ^ k * 1 ||| p := by rw [← Nat.two_pow_add_eq_or_of_lt hp 1, Nat.mul_one]
    rw [e, Nat.mul_one, Nat.testBit_or, Nat.testBit_two_pow]
    simp [h]
  · rw [if_neg h, Nat.add_zero, Nat.testBit_lt_two_pow hp]
    simp [h]
theorem half1_lt {p : Nat} {l : List Int} {k m : Nat} (hp : p < 2 ^ k) : half1 p l k m < 2 ^ (k + 1) := by
  unfold half1
  rw [Nat.pow_succ]
  split <;> omega
theorem half1_succ {p : Nat} {l : List Int} {k m : Nat} (h : m < l.length) : half1 p l k (m + 1) = if l.getD m 0 = (k : Int) ∧ ¬ (k : Int) ∈ l.take m then half1 p l k m + 2 ^ k else half1 p l k m := by
  unfold half1
  rw [List.take_succ_eq_append_getElem h]
  have e : l.getD m 0 = l[m] := by rw [List.getD_eq_getElem?_getD, List.getElem?_eq_getElem h]; rfl
  rw [e]
  simp only [List.mem_append, List.mem_singleton]
  by_cases h1 : (k : Int) ∈ l.take m
  · simp only [h1, true_or, if_true, not_true_eq_false, and_false, if_false]
  · by_cases h2 : l[m] = (k : Int)
    · simp only [h1, h2, or_true, if_true, if_false, not_false_eq_true, and_self, Nat.add_zero]
    · have h2' : ¬ (k : Int) = l[m] := fun x => h2 x.symm
      simp only [h1, h2, h2', or_self, if_false, false_and]
theorem half1_all {l : List Int} {k : Nat} (h1 : 1 ≤ k) : half1 (setTo l k) l k l.length = setTo l (k + 1) := by
  unfold half1
  rw [List.take_length, setTo]
  by_cases h : (k : Int) ∈ l
  · rw [if_pos h, if_pos ⟨h1, h⟩]
  · rw [if_neg h, if_neg (fun x => h x.2)]
end Go.Proofs.Ytidhaofojcdbaaa
