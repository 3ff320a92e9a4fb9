/-
  The page's example of accept; the walk of AcceptNil.
-/
import Derived.Test.YtidhaofojcdbaaaAccD
namespace Go.Proofs.Ytidhaofojcdbaaa
open Go.RowKit
set_option linter.unusedVariables false

theorem isBal_of (b : Int) (h1 : 1 ≤ b / 8) (h2 : b / 8 ≤ 1152921504606846975) (h3 : 1 ≤ b % 8) (h4 : b % 8 ≤ 5) : IsBal b := ⟨h1, h2, h3, h4⟩
theorem canX_ok (p b : Int) (h : IsBal b) (hp : p ≤ b) : canX p b = 0 := by unfold canX; rw [if_neg (by simpa using h), if_neg (by omega)]
theorem canX_ep (p b : Int) (h : IsBal b) (hp : b < p) : canX p b = 10 := by unfold canX; rw [if_neg (by simpa using h), if_pos hp]
theorem prepX_9 : prepX 0 9 0 = 0 := by unfold prepX; rw [if_neg (by omega), canX_ok 0 9 (isBal_of 9 (by omega) (by omega) (by omega) (by omega)) (by omega)]
theorem prepX_10 : prepX 17 9 0 = 10 := by unfold prepX; rw [if_neg (by omega), canX_ep 17 9 (isBal_of 9 (by omega) (by omega) (by omega) (by omega)) (by omega)]
theorem accX_17 : accX 9 17 3 0 = 0 := by
  have hb : IsBal 17 := isBal_of 17 (by omega) (by omega) (by omega) (by omega)
  unfold accX
  rw [if_neg (by
    rintro (h | h)
    · exact h hb
    · omega), if_neg (by decide), canX_ok 9 17 hb (by omega)]
set_option maxRecDepth 100000 in
set_option maxHeartbeats 1000000 in
theorem awake11 (w : World) : Calls Try.prog 26 #[] w fun e w' => e = .returned (.bool true) ∧ Kept NoB w w' := by
  go_enter Try.func26, Try.ntmps26
  go_wp2_with fail
  refine (ANew_any w).mono ?_
  rintro e w1 ⟨rfl, ha, hk⟩
  have HA := Lib.hid ha
  have HK := Lib.hid hk
  clear ha hk
  go_wp2_with fail
  refine (APrep_any w1 (w.heap.size + 1) w.heap.size 0 9 0 [] HA.out (by omega) (by omega) (by omega)).mono ?_
  rintro e w2 ⟨v, rfl, hv, ha, hk⟩
  rw [show prepP 0 9 0 = 9 by unfold prepP; rw [prepX_9, if_pos rfl]] at ha
  rw [prepX_9]
  obtain ⟨va, vc, rfl⟩ := hv.form
  have HA2 := Lib.hid ha
  have HK2 := Lib.hid (HK.out.trans (T := AB (w.heap.size + 1) w.heap.size) hk (fun i hi h => by rcases h with h | h <;> omega))
  clear hv ha hk
  go_wp2_with fail
  refine (AAcc_any w2 (w.heap.size + 1) w.heap.size 9 17 3 0 0 0 0 0 [] HA2.out (by omega) (by omega) (by omega) (by omega) (Chk.ok.2 (.inl ⟨rfl, rfl, rfl, rfl⟩))).mono ?_
  rintro e w3 ⟨rfl, ha, hk⟩
  rw [show accP 9 17 3 0 = 17 by unfold accP; rw [accX_17, if_pos rfl], show accL 9 17 3 0 [] ⟨3, 17, 0, 0, 0, 0⟩ = [⟨3, 17, 0, 0, 0, 0⟩] by unfold accL; rw [accX_17, if_pos rfl]; rfl] at ha
  rw [accX_17]
  have HA3 := Lib.hid ha
  have HK3 := Lib.hid (HK2.out.trans (T := AB (w.heap.size + 1) w.heap.size) hk (fun i hi h => by rcases h with h | h <;> omega))
  clear ha hk
  go_wp2_with fail
  refine (APrep_any w3 (w.heap.size + 1) w.heap.size 17 9 0 _ HA3.out (by omega) (by omega) (by omega)).mono ?_
  rintro e w4 ⟨v, rfl, hv, ha, hk⟩
  rw [show prepP 17 9 0 = 17 by unfold prepP; rw [prepX_10, if_neg (by decide)]] at ha
  rw [prepX_10]
  obtain ⟨va', vc', rfl⟩ := hv.form
  have HA4 := Lib.hid ha
  have HK4 := Lib.hid (HK3.out.trans (T := AB (w.heap.size + 1) w.heap.size) hk (fun i hi h => by rcases h with h | h <;> omega))
  have HP := Lib.hid (APromised_any w4 _ _ _ _ HA4.out)
  have HL := Lib.hid (ALen_any w4 _ _ _ _ HA4.out)
  clear hv ha hk
  go_wp2_with (first
    | (go_at_call 65; refine HP.out.mono ?_; rintro e w' ⟨rfl, rfl⟩)
    | (go_at_call 66; refine HL.out.mono ?_; rintro e w' ⟨rfl, rfl⟩))
  go_ret
  exact ⟨rfl, HK4.out⟩
-- GEN (wip/mkacce.py)
def AVotesNil_negRel (w : World) (f : Int) (ov iv : Value) (wr : World) : Prop := ∃ k : Int, iv = .int .i64 k ∧ max f 0 ≤ k ∧ ov = .slice none 0 0 ∧ Kept NoB w wr
theorem AVotesNil_neg (w : World) (f : Int) (hf : f ≤ 9223372036854775807) (h0 : f < 0) : Calls Try.prog 86 #[.pointer none, .int .i64 f] w fun e w' => e = .returned (.slice none 0 0) ∧ Kept NoB w w' := by
  go_enter Try.func86, Try.ntmps86
  go_wp2
  go_loopw [5, 6] (AVotesNil_negRel w f) (fun _ i _ => 512 - (RowKit.intOf i).toNat)
  case atStart => exact ⟨0, rfl, by omega, rfl, Kept.refl _ _⟩
  case round =>
    obtain ⟨k, rfl, hk0, rfl, hK⟩ := hrel
    by_cases hlt : k < 512
    · have HK := Lib.hid hK
      have hk00 : 0 ≤ k := by omega
      clear hK
      go_wp2_with fail
      refine (AVote_nil wr k).mono ?_
      rintro e w2 ⟨rfl, hk2⟩
      rw [show vvv vt0 = .agg #[.int .i64 0, .int .u64 0, .int .i64 0, .int .i64 0, .int .u64 0, .int .i64 0] from rfl]
      have HK2 := Lib.hid (HK.out.trans hk2 (fun _ _ h => h))
      clear hk2
      go_wp2
      exact ⟨⟨k + 1, by go_num, by omega, rfl, HK2.out.alloc _⟩, by simp [RowKit.intOf]; omega⟩
    · go_wp2
      go_ret
      exact ⟨rfl, hK⟩
def AVotesNil_posRel (w : World) (f : Int) (ov iv : Value) (wr : World) : Prop := ∃ k : Int, iv = .int .i64 k ∧ max f 0 ≤ k ∧ ov = .slice none 0 0 ∧ Kept NoB w wr
theorem AVotesNil_pos (w : World) (f : Int) (hf : f ≤ 9223372036854775807) (h0 : 0 ≤ f) : Calls Try.prog 86 #[.pointer none, .int .i64 f] w fun e w' => e = .returned (.slice none 0 0) ∧ Kept NoB w w' := by
  go_enter Try.func86, Try.ntmps86
  go_wp2
  go_loopw [5, 6] (AVotesNil_posRel w f) (fun _ i _ => 512 - (RowKit.intOf i).toNat)
  case atStart => exact ⟨f, rfl, by omega, rfl, Kept.refl _ _⟩
  case round =>
    obtain ⟨k, rfl, hk0, rfl, hK⟩ := hrel
    by_cases hlt : k < 512
    · have HK := Lib.hid hK
      have hk00 : 0 ≤ k := by omega
      clear hK
      go_wp2_with fail
      refine (AVote_nil wr k).mono ?_
      rintro e w2 ⟨rfl, hk2⟩
      rw [show vvv vt0 = .agg #[.int .i64 0, .int .u64 0, .int .i64 0, .int .i64 0, .int .u64 0, .int .i64 0] from rfl]
      have HK2 := Lib.hid (HK.out.trans hk2 (fun _ _ h => h))
      clear hk2
      go_wp2
      exact ⟨⟨k + 1, by go_num, by omega, rfl, HK2.out.alloc _⟩, by simp [RowKit.intOf]; omega⟩
    · go_wp2
      go_ret
      exact ⟨rfl, hK⟩
theorem AVotesNil_any (w : World) (f : Int) (hf : f ≤ 9223372036854775807) : Calls Try.prog 86 #[.pointer none, .int .i64 f] w fun e w' => e = .returned (.slice none 0 0) ∧ Kept NoB w w' := by
  by_cases h0 : f < 0
  · exact AVotesNil_neg w f hf h0
  · exact AVotesNil_pos w f hf (by omega)
/-- A call of an acceptor, by value. -/
structure OpV where
  kd : Int
  b : Int
  s : Int
  k : Int
  ch : Int
  ep : Int
  nd : Int
theorem cells7 {w : World} {g : Nat} {a b c d e f h : Value} {t : TypeId} (hh : w.heap[g]? = some (.cells #[a, b, c, d, e, f, h] t (0, 0))) :
    w.cell? ⟨g, 0, none⟩ = some a ∧ w.cell? ⟨g, 1, none⟩ = some b ∧ w.cell? ⟨g, 2, none⟩ = some c ∧ w.cell? ⟨g, 3, none⟩ = some d ∧ w.cell? ⟨g, 4, none⟩ = some e ∧ w.cell? ⟨g, 5, none⟩ = some f ∧ w.cell? ⟨g, 6, none⟩ = some h :=
  ⟨cell_of_row _ _ 0 _ _ _ hh, cell_of_row _ _ 1 _ _ _ hh, cell_of_row _ _ 2 _ _ _ hh, cell_of_row _ _ 3 _ _ _ hh, cell_of_row _ _ 4 _ _ _ hh, cell_of_row _ _ 5 _ _ _ hh, cell_of_row _ _ 6 _ _ _ hh⟩
end Go.Proofs.Ytidhaofojcdbaaa
