/-
  Package ballot and its answer: canBeMember, Has.
-/
import Derived.Test.YtidhaofojcdbaaaBalB
import Derived.Test.YtidhaofojcdbaaaBalP
import Derived.Laws.ShiftsVarLaws
namespace Go.Proofs.Ytidhaofojcdbaaa
open Go.RowKit
set_option linter.unusedVariables false

theorem can_yes (i : Int) (w : World) (h1 : 1 ≤ i) (h2 : i < 64) : Calls Try.prog 95 #[.int .i64 i] w fun e w' => e = .returned (.bool true) ∧ w = w' := by
  go_enter Try.func95, Try.ntmps95
  go_wp2
  go_ret
  exact ⟨rfl, rfl⟩
theorem can_no (i : Int) (w : World) (h : i < 1 ∨ 63 < i) : Calls Try.prog 95 #[.int .i64 i] w fun e w' => e = .returned (.bool false) ∧ w = w' := by
  by_cases h1 : i < 1
  · clear h
    go_enter Try.func95, Try.ntmps95
    go_wp2
    go_ret
    exact ⟨rfl, rfl⟩
  · have h2 : decide (i < 64) = false := decide_eq_false (by omega)
    have h3 : 1 ≤ i := by omega
    clear h h1
    go_enter Try.func95, Try.ntmps95
    go_wp2
    go_ret
    exact ⟨rfl, rfl⟩

theorem bHas_out (s : Nat) (i : Int) (w : World) (h : i < 1 ∨ 63 < i) : Calls Try.prog 121 #[.int .u64 s, .int .i64 i] w fun e w' => e = .returned (.bool false) ∧ w = w' := by
  have HM := Lib.hid (can_no i w h)
  clear h
  go_enter Try.func121, Try.ntmps121
  go_wp2_with (go_at_call 95; refine HM.out.mono ?_; rintro e w' ⟨rfl, rfl⟩)
  go_ret
  exact ⟨rfl, rfl⟩
theorem shr_and (s k : Nat) (hs : s < 18446744073709551616) : bits BinOp.and IntKind.u64 ((s : Int) / 2 ^ k) 1 = if s.testBit k then 1 else 0 := by
  have h := u64_and_nat (s / 2 ^ k) 1 (Nat.lt_of_le_of_lt (Nat.div_le_self _ _) hs) (by decide)
  have e : (((s / 2 ^ k : Nat)) : Int) = (s : Int) / 2 ^ k := by simp
  rw [e, show ((1 : Nat) : Int) = 1 from rfl] at h
  rw [h, Nat.and_one_is_mod, Nat.testBit_eq_decide_div_mod_eq]
  rcases Nat.mod_two_eq_zero_or_one (s / 2 ^ k) with hm | hm <;> simp [hm]
theorem bHas_yes (s k : Nat) (w : World) (hs : s < 18446744073709551616) (h1 : 1 ≤ k) (h2 : k ≤ 63) (hb : s.testBit k = true) : Calls Try.prog 121 #[.int .u64 s, .int .i64 k] w fun e w' => e = .returned (.bool true) ∧ w = w' := by
  have HM := Lib.hid (can_yes k w (by omega) (by omega))
  have h3 : (0 : Int) ≤ k := by omega
  have ha := shr_and s k hs
  rw [if_pos hb] at ha
  clear hb hs
  go_enter Try.func121, Try.ntmps121
  go_wp2_with (go_at_call 95; refine HM.out.mono ?_; rintro e w' ⟨rfl, rfl⟩)
  go_ret
  exact ⟨rfl, rfl⟩
theorem bHas_not (s k : Nat) (w : World) (hs : s < 18446744073709551616) (h1 : 1 ≤ k) (h2 : k ≤ 63) (hb : s.testBit k = false) : Calls Try.prog 121 #[.int .u64 s, .int .i64 k] w fun e w' => e = .returned (.bool false) ∧ w = w' := by
  have HM := Lib.hid (can_yes k w (by omega) (by omega))
  have h3 : (0 : Int) ≤ k := by omega
  have ha := shr_and s k hs
  rw [hb] at ha
  simp only [Bool.false_eq_true, if_false] at ha
  clear hb hs
  go_enter Try.func121, Try.ntmps121
  go_wp2_with (go_at_call 95; refine HM.out.mono ?_; rintro e w' ⟨rfl, rfl⟩)
  go_ret
  exact ⟨rfl, rfl⟩
/-- Has, by membership. -/
theorem bHas_mem (s k : Nat) (w : World) (hs : s < 18446744073709551616) (h2 : k ≤ 63) : Calls Try.prog 121 #[.int .u64 s, .int .i64 k] w fun e w' => e = .returned (.bool (mem s k)) ∧ w = w' := by
  by_cases h1 : 1 ≤ k
  · cases hb : s.testBit k
    · rw [show mem s k = false by simp [mem, hb]]
      exact bHas_not s k w hs h1 h2 hb
    · rw [show mem s k = true by simp [mem, hb, h1]]
      exact bHas_yes s k w hs h1 h2 hb
  · rw [show mem s k = false by simp [mem, h1]]
    exact bHas_out s k w (by omega)

theorem i64_and_nat (a b : Nat) (ha : a < 9223372036854775808) (hb : b < 9223372036854775808) : bits .and .i64 (a : Int) (b : Int) = ((a &&& b : Nat) : Int) := by
  have hx : a &&& b < 2 ^ 63 := Nat.and_lt_two_pow _ (by omega)
  show IntKind.i64.wrap ((BitVec.ofInt 64 (a : Int) &&& BitVec.ofInt 64 (b : Int)).toNat : Int) = _
  rw [BitVec.toNat_and, ofInt_u64 a (by omega), ofInt_u64 b (by omega), IntKind.wrap_i64]
  omega
theorem ones_any (n : Nat) (w : World) (hn : n < 18446744073709551616) : Calls Try.prog 147 #[.int .u64 n] w fun e w' => e = .returned (.int .i64 (pc 64 n : Nat)) ∧ w = w' := by
  obtain ⟨f, hf, hT, hp⟩ := spread_pc n
  have s1 := step1 8 n
  have s2 := step2 8 n
  have s3 := step3 8 n
  rw [← s1] at s2
  rw [← s2] at s3
  rw [← s3] at hT
  have r85 : rep 85 8 = 6148914691236517205 := rfl
  have r51 : rep 51 8 = 3689348814741910323 := rfl
  have r15 : rep 15 8 = 1085102592571150095 := rfl
  rw [r85] at hT
  rw [r51] at hT
  rw [r15] at hT
  obtain ⟨hv, hm⟩ := fold _ _ _ _ _ _ _ _ _ (hf 0) (hf 1) (hf 2) (hf 3) (hf 4) (hf 5) (hf 6) (hf 7) hT
  rw [← hp] at hm
  have F1 := u64_and_nat (n / 2) 6148914691236517205 (by omega) (by decide)
  have F2 := u64_and_nat n 6148914691236517205 hn (by decide)
  have b1 : n / 2 &&& 6148914691236517205 ≤ 6148914691236517205 := Nat.and_le_right
  have b2 : n &&& 6148914691236517205 ≤ 6148914691236517205 := Nat.and_le_right
  obtain ⟨x1, hx1⟩ : ∃ x, x = n / 2 &&& 6148914691236517205 := ⟨_, rfl⟩
  obtain ⟨x2, hx2⟩ : ∃ x, x = n &&& 6148914691236517205 := ⟨_, rfl⟩
  rw [← hx1] at F1 b1 hm hv
  rw [← hx2] at F2 b2 hm hv
  have F3 := u64_and_nat ((x1 + x2) / 4) 3689348814741910323 (by omega) (by decide)
  have F4 := u64_and_nat (x1 + x2) 3689348814741910323 (by omega) (by decide)
  have b3 : (x1 + x2) / 4 &&& 3689348814741910323 ≤ 3689348814741910323 := Nat.and_le_right
  have b4 : x1 + x2 &&& 3689348814741910323 ≤ 3689348814741910323 := Nat.and_le_right
  obtain ⟨y1, hy1⟩ : ∃ x, x = (x1 + x2) / 4 &&& 3689348814741910323 := ⟨_, rfl⟩
  obtain ⟨y2, hy2⟩ : ∃ x, x = x1 + x2 &&& 3689348814741910323 := ⟨_, rfl⟩
  rw [← hy1] at F3 b3 hm hv
  rw [← hy2] at F4 b4 hm hv
  have F5 := u64_and_nat ((y1 + y2) / 16 + (y1 + y2)) 1085102592571150095 (by omega) (by decide)
  have b5 : (y1 + y2) / 16 + (y1 + y2) &&& 1085102592571150095 ≤ 1085102592571150095 := Nat.and_le_right
  obtain ⟨z, hz⟩ : ∃ x, x = (y1 + y2) / 16 + (y1 + y2) &&& 1085102592571150095 := ⟨_, rfl⟩
  rw [← hz] at F5 b5 hm hv
  clear s1 s2 s3 hT hp hf hx1 hx2 hy1 hy2 hz r85 r51 r15
  have c1 : (x1 : Int) + x2 ≤ 18446744073709551615 := by omega
  have c2 : (y1 : Int) + y2 ≤ 7378697629483820646 := by omega
  have c5 : (z : Int) ≤ 1085102592571150095 := by omega
  have e1 : (((n / 2 : Nat)) : Int) = (n : Int) / 2 := by simp
  have e3 : ((((x1 + x2) / 4 : Nat)) : Int) = ((x1 : Int) + x2) / 4 := by simp
  have e4 : (((x1 + x2 : Nat)) : Int) = ((x1 : Int) + x2) := by simp
  have e5 : ((((y1 + y2) / 16 + (y1 + y2) : Nat)) : Int) = ((y1 : Int) + y2) / 16 + ((y1 : Int) + y2) := by simp
  rw [e1] at F1
  rw [e3] at F3
  rw [e4] at F4
  rw [e5] at F5
  have G1 : bits BinOp.and IntKind.u64 ((n : Int) / 2) 6148914691236517205 = (x1 : Int) := F1
  have G2 : bits BinOp.and IntKind.u64 (n : Int) 6148914691236517205 = (x2 : Int) := F2
  have G3 : bits BinOp.and IntKind.u64 (((x1 : Int) + x2) / 4) 3689348814741910323 = (y1 : Int) := F3
  have G4 : bits BinOp.and IntKind.u64 ((x1 : Int) + x2) 3689348814741910323 = (y2 : Int) := F4
  have G5 : bits BinOp.and IntKind.u64 (((y1 : Int) + y2) / 16 + ((y1 : Int) + y2)) 1085102592571150095 = (z : Int) := F5
  have HM := Lib.hid hm
  clear F1 F2 F3 F4 F5
  have hz0 : (0 : Int) ≤ z := by omega
  have hx0 : (0 : Int) ≤ (x1 : Int) + x2 := by omega
  have hy0 : (0 : Int) ≤ (y1 : Int) + y2 := by omega
  have hn0 : (0 : Int) ≤ n := by omega
  have hn1 : (n : Int) ≤ 18446744073709551615 := by omega
  clear hm hv b1 b2 b3 b4 b5 e1 e3 e4 e5 hn
  go_enter Try.func147, Try.ntmps147
  go_wp2
  go_ret
  refine ⟨congrArg (fun x => Ending.returned (Value.int IntKind.i64 x)) ?_, rfl⟩
  have hk := i64_and_nat (z + z / 256 + (z + z / 256) / 65536 + (z + z / 256 + (z + z / 256) / 65536) / 4294967296) 127 (by omega) (by decide)
  rw [show (127 : Nat) = 2 ^ 7 - 1 from rfl, Nat.and_two_pow_sub_one_eq_mod] at hk
  rw [← HM.out, ← hk]
  simp
theorem Count_any (s : Nat) (w : World) (hs : s < 18446744073709551616) : Calls Try.prog 120 #[.int .u64 s] w fun e w' => e = .returned (.int .i64 ((below s 64).length : Nat)) ∧ w = w' := by
  have HM := Lib.hid (ones_any (clr s) w (by unfold clr; omega))
  have F := u64_andNot_nat s 1 hs (by decide)
  rw [and_not_one s hs] at F
  have F' : bits BinOp.andNot IntKind.u64 (s : Int) 1 = ((clr s : Nat) : Int) := F
  rw [below_pc]
  clear F hs
  go_enter Try.func120, Try.ntmps120
  go_wp2_with (go_at_call 147; refine HM.out.mono ?_; rintro e w' ⟨rfl, rfl⟩)
  go_ret
  exact ⟨rfl, rfl⟩
end Go.Proofs.Ytidhaofojcdbaaa
