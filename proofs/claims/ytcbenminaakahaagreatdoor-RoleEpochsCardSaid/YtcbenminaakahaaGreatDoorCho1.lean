/-
  Great configurations (of more than a thousand nodes): neither Right nor the chapter's holds of one.
-/
import Derived.Test.YtcbenminaakahaaGreatDoorCnf2
namespace Go.Proofs.YtcbenminaakahaaGreatDoor
open Go.RowKit
set_option linter.unusedVariables false

set_option maxRecDepth 100000 in
set_option maxHeartbeats 2000000 in
theorem RRight_great (v : Value) (c : Cf) (F : Nat → Prop) (w : World) (h : CfR w F v c) (hg : 1000 < c.ns.length) : Calls Tryz.prog 118 #[v] w (BoolE false w) := by
  obtain ⟨u, rfl, hn, h0, htop⟩ := h
  obtain ⟨a, cap, rfl, hn1, hn2, _⟩ := id hn
  obtain ⟨ch, ep, ns, fr, jn⟩ := c
  simp only at hg h0 htop hn1 hn2 ⊢
  obtain ⟨n, hnn⟩ : ∃ x, x = ns.length := ⟨_, rfl⟩
  rw [← hnn] at hg hn1 ⊢
  unfold maxLen at hn2
  clear hnn hn
  have hd1 : decide (6 < (n : Int)) = true := decide_eq_true (by omega)
  have hd2 : ((n : Int) == 0) = false := by
    have : (n : Int) ≠ 0 := by omega
    simpa using this
  obtain ⟨c0, c1, c2, c3, c4⟩ := cells5 (heap_alloc_new w (.cells #[.int .i64 ch, .int .u64 ep, .slice a n cap, .bool fr, .int .i64 jn] 29))
  go_enter Tryz.func118, Tryz.ntmps118
  go_wp2
  all_goals go_ret
  all_goals exact ⟨rfl, (Kept.refl _ _).alloc _⟩
set_option maxRecDepth 100000 in
set_option maxHeartbeats 2000000 in
theorem Right_great (v : Value) (c : Cf) (F : Nat → Prop) (w : World) (h : CfR w F v c) (hg : 1000 < c.ns.length) : Calls Tryz.prog 115 #[v] w (BoolE false w) := by
  obtain ⟨u, rfl, hn, h0, htop⟩ := h
  obtain ⟨a, cap, rfl, hn1, hn2, _⟩ := id hn
  obtain ⟨ch, ep, ns, fr, jn⟩ := c
  simp only at hg h0 htop hn1 hn2 ⊢
  obtain ⟨n, hnn⟩ : ∃ x, x = ns.length := ⟨_, rfl⟩
  rw [← hnn] at hg hn1 ⊢
  unfold maxLen at hn2
  clear hnn hn
  have hd1 : decide (6 < (n : Int)) = true := decide_eq_true (by omega)
  have hd2 : ((n : Int) == 0) = false := by
    have : (n : Int) ≠ 0 := by omega
    simpa using this
  obtain ⟨c0, c1, c2, c3, c4⟩ := cells5 (heap_alloc_new w (.cells #[.int .i64 ch, .int .u64 ep, .slice a n cap, .bool fr, .int .i64 jn] 29))
  go_enter Tryz.func115, Tryz.ntmps115
  go_wp2
  all_goals go_ret
  all_goals exact ⟨rfl, (Kept.refl _ _).alloc _⟩
/-- The first few of them are a slice of small ones. -/
theorem CfsR.part {w : World} {F : Nat → Prop} {a : Option Addr} {cap : Nat} {l : List Cf} (h : CfsR w F (.slice a l.length cap) l) (k : Nat) (hk : k ≤ l.length) (hf : ∀ j, j < k → (nthC l j).ns.length ≤ 1000) : CfsAt w F (.slice a k cap) (l.take k) := by
  obtain ⟨a', cap', e, h2, h3, h4, h5⟩ := h
  injection e with e1 e2 e3
  subst e1 e3
  have hl : (l.take k).length = k := List.length_take_of_le hk
  refine ⟨_, _, by rw [hl], by rw [hl]; omega, h3, h4, fun hp => ?_⟩
  rw [hl] at hp
  obtain ⟨b, o, rfl, hF, hb, hc⟩ := h5 (by omega)
  refine ⟨b, o, rfl, hF, hb, fun j hj => ?_⟩
  rw [hl] at hj
  rw [nthC_take hj]
  obtain ⟨u, e0, e1, e2, e3, e4, hn, q0, q1⟩ := hc j (by omega)
  exact ⟨u, e0, e1, e2, e3, e4, hn, q0, q1, hf j hj⟩
/-- All are small, or there is a first great one. -/
theorem great_first (l : List Cf) : (∀ j, j < l.length → (nthC l j).ns.length ≤ 1000) ∨ ∃ k, k < l.length ∧ 1000 < (nthC l k).ns.length ∧ ∀ j, j < k → (nthC l j).ns.length ≤ 1000 := by
  have : ∀ m : Nat, m ≤ l.length → (∀ j, j < m → (nthC l j).ns.length ≤ 1000) ∨ ∃ k, k < l.length ∧ 1000 < (nthC l k).ns.length ∧ ∀ j, j < k → (nthC l j).ns.length ≤ 1000 := by
    intro m
    induction m with
    | zero => exact fun _ => .inl (fun j h => absurd h (by omega))
    | succ m ih =>
      intro hm
      rcases ih (by omega) with h | h
      · by_cases e : (nthC l m).ns.length ≤ 1000
        · exact .inl (fun j hj => by
            by_cases e2 : j = m
            · subst e2; exact e
            · exact h j (by omega))
        · exact .inr ⟨m, by omega, by omega, h⟩
      · exact .inr h
  exact this l.length (Nat.le_refl _)
end Go.Proofs.YtcbenminaakahaaGreatDoor
