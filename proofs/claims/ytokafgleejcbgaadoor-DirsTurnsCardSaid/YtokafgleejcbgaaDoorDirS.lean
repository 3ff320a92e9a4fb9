/-
  Layer 29: like of the statements; the walk of DirsGets.
-/
import Derived.Test.YtokafgleejcbgaaDoorDirR
namespace Go.Proofs.YtokafgleejcbgaaDoor
open Go.RowKit
set_option linter.unusedVariables false

set_option maxRecDepth 100000 in
set_option maxHeartbeats 4000000 in
theorem like29_true (v u : Value) (l : List En) (F G : Nat → Prop) (w : World) (h : ESl w F v l) (k : ESl w G u l) (hl : l.length ≤ 1000000) :
    Calls Tryd.prog 13 #[v, u] w fun e w' => e = .returned (.bool true) ∧ Kept NoB w w' := by
  obtain ⟨a, c, rfl, _⟩ := h.form
  obtain ⟨a2, c2, rfl, _⟩ := k.form
  have HP := Lib.hid h
  have HQ := Lib.hid k
  clear h k
  go_enter Tryd.func13, Tryd.ntmps13
  go_wp2_with fail
  go_loopw [5] (fun i wr => ∃ j : Nat, j ≤ l.length ∧ i = .int .i64 j ∧ Kept NoB w wr) (fun i _ => l.length - (RowKit.intOf i).toNat)
  case atStart => exact ⟨0, Nat.zero_le _, rfl, Kept.refl _ _⟩
  case round =>
    obtain ⟨j, hj, rfl, hkk⟩ := hrel
    have HK := Lib.hid hkk
    by_cases hlt : j < l.length
    · have hj1 : (j : Int) < (l.length : Int) := by omega
      have hj0 : (0 : Int) ≤ (j : Int) := by omega
      obtain ⟨b, o, rfl, _, _, e0, e1⟩ := (HP.out.no hkk).at_ hlt
      obtain ⟨b', o', rfl, _, _, f0, f1⟩ := (HQ.out.no hkk).at_ hlt
      obtain ⟨x, hx⟩ : ∃ x, x = eth l j := ⟨_, rfl⟩
      rw [← hx] at e0 e1 f0 f1
      obtain ⟨nm, nd⟩ := x
      simp only at e0 e1 f0 f1
      obtain ⟨sx, hsx⟩ : ∃ sx : ByteArray, sx = ⟨nm.toArray⟩ := ⟨_, rfl⟩
      rw [← hsx] at e0 f0
      clear hkk hx hsx
      go_wp2_with fail
      go_region
      go_wp2
      go_roundw
      case rel => exact ⟨j + 1, by omega, by go_num, by first | exact HK.out | exact HK.out.drew | exact HK.out.drewN _⟩
      case measure => simp [RowKit.intOf]; omega
    · obtain rfl : j = l.length := by omega
      clear hkk
      go_wp2_with fail
      go_ret
      exact ⟨rfl, HK.out⟩
theorem gotE_all (b : List Int) : (gotE b).1 = 0 → putE (gotE b).2 = b ∧ chkE (gotE b).2 = 0 := by
  unfold gotE
  by_cases h1 : 512 < b.length
  · rw [if_pos h1]; intro h; cases h
  · rw [if_neg h1]
    by_cases h2 : b.length % 16 ≠ 0
    · rw [if_pos h2]; intro h; cases h
    · rw [if_neg h2]
      cases entsR (b.length / 16) b with
      | none => intro h; cases h
      | some l =>
        simp only
        by_cases h3 : chkE l = 0 ∧ bytEs l = b
        · rw [if_pos h3]; intro _; exact ⟨by unfold putE; rw [if_pos h3.1]; exact h3.2, h3.1⟩
        · rw [if_neg h3]; intro h; cases h
theorem gotE_len (b : List Int) : (gotE b).2.length ≤ 32 ∧ ∀ p ∈ (gotE b).2, p.1.length ≤ 11 := by
  by_cases h0 : (gotE b).1 = 0
  · obtain ⟨h1, _, h2⟩ := chkE_zero (gotE_all b h0).2
    exact ⟨h1, fun p hp => (h2 p hp).1.1.2⟩
  · have : (gotE b).2 = [] := by
      revert h0
      unfold gotE
      by_cases h1 : 512 < b.length
      · rw [if_pos h1]; intro _; rfl
      · rw [if_neg h1]
        by_cases h2 : b.length % 16 ≠ 0
        · rw [if_pos h2]; intro _; rfl
        · rw [if_neg h2]
          cases entsR (b.length / 16) b with
          | none => intro _; rfl
          | some l =>
            simp only
            by_cases h3 : chkE l = 0 ∧ bytEs l = b
            · rw [if_pos h3]; intro h; exact absurd rfl h
            · rw [if_neg h3]; intro _; rfl
    rw [this]
    exact ⟨by decide, fun _ h => by cases h⟩
end Go.Proofs.YtokafgleejcbgaaDoor
