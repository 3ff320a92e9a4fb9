/-
  Configurations of any size in memory, and whether they are few.
-/
import Derived.Test.YtbdenjmnohhhiaaDoorCnfC
import Derived.Test.YtbdenjmnohhhiaaDoorCnfL
namespace Go.Proofs.YtbdenjmnohhhiaaDoor
open Go.RowKit
set_option linter.unusedVariables false

/-- A configuration by value, as large as it likes. -/
def CfR (w : World) (F : Nat → Prop) (v : Value) (c : Cf) : Prop :=
  ∃ u, v = .agg #[.int .i64 c.ch, .int .u64 c.ep, u, .bool c.fr, .int .i64 c.jn] ∧ NSl w F u c.ns ∧ 0 ≤ c.ep ∧ c.ep ≤ topE
/-- In five cells. -/
def CfL (w : World) (F : Nat → Prop) (b o : Nat) (c : Cf) : Prop :=
  ∃ u, w.cell? ⟨b, o, none⟩ = some (.int .i64 c.ch) ∧ w.cell? ⟨b, o + 1, none⟩ = some (.int .u64 c.ep) ∧ w.cell? ⟨b, o + 2, none⟩ = some u ∧ w.cell? ⟨b, o + 3, none⟩ = some (.bool c.fr) ∧
    w.cell? ⟨b, o + 4, none⟩ = some (.int .i64 c.jn) ∧ NSl w F u c.ns ∧ 0 ≤ c.ep ∧ c.ep ≤ topE
/-- A slice of them. -/
def CfsR (w : World) (F : Nat → Prop) (v : Value) (l : List Cf) : Prop :=
  ∃ a cap, v = .slice a l.length cap ∧ l.length ≤ cap ∧ cap ≤ maxLen ∧ (a = none → cap = 0) ∧
    (0 < l.length → ∃ b o, a = some ⟨b, o, none⟩ ∧ F b ∧ b < w.heap.size ∧ ∀ j, j < l.length → CfL w F b (o + j * 5) (nthC l j))
def Few (l : List Cf) : Prop := l.length ≤ 6 ∧ ∀ j, j < l.length → (nthC l j).ns.length ≤ 30
instance (l : List Cf) : Decidable (Few l) := inferInstanceAs (Decidable (_ ∧ _))
theorem CfR.cfV {w : World} {F : Nat → Prop} {v : Value} {c : Cf} (h : CfR w F v c) (hf : c.ns.length ≤ 30) : CfV w F v c := by
  obtain ⟨u, h1, h2, h3, h4⟩ := h
  exact ⟨u, h1, h2, h3, h4, by omega⟩
theorem CfsR.cfs {w : World} {F : Nat → Prop} {v : Value} {l : List Cf} (h : CfsR w F v l) (hf : Few l) : CfsAt w F v l := by
  obtain ⟨a, cap, h1, h2, h3, h4, h5⟩ := h
  refine ⟨a, cap, h1, h2, h3, h4, fun hl => ?_⟩
  obtain ⟨b, o, ha, hF, hb, hc⟩ := h5 hl
  refine ⟨b, o, ha, hF, hb, fun j hj => ?_⟩
  obtain ⟨u, e0, e1, e2, e3, e4, hn, q0, q1⟩ := hc j hj
  exact ⟨u, e0, e1, e2, e3, e4, hn, q0, q1, by have := hf.2 j hj; omega⟩
set_option maxRecDepth 100000 in
theorem few_any (v : Value) (l : List Cf) (F : Nat → Prop) (w : World) (h : CfsR w F v l) : Calls Tryd.prog 4 #[v] w fun e w' => e = .returned (.bool (decide (Few l))) ∧ w = w' := by
  obtain ⟨a, cap, rfl, hcap, hmax, _, hcells⟩ := h
  unfold maxLen at hmax
  have HC := Lib.hid hcells
  obtain ⟨d, hd⟩ : ∃ d, d = decide (Few l) := ⟨_, rfl⟩
  rw [← hd]
  have HD := Lib.hid hd
  clear hcells hd
  go_enter Tryd.func4, Tryd.ntmps4
  go_wp2
  go_loop [3] (fun i => ∃ (k : Nat), i = .int .i64 k ∧ k ≤ l.length ∧ ∀ j, j < k → (nthC l j).ns.length ≤ 30) (fun i => l.length - (RowKit.intOf i).toNat)
  case atStart => exact ⟨0, rfl, Nat.zero_le _, fun j hj => absurd hj (by omega)⟩
  case round =>
    obtain ⟨k, rfl, hk, hall⟩ := hrel
    have HALL := Lib.hid hall
    clear hall
    by_cases hlt : k < l.length
    · obtain ⟨b, o, rfl, _, _, hc⟩ := HC.out (by omega)
      obtain ⟨u, _, _, e2, _, _, ⟨ua, uc, rfl, u2, u3, _⟩, _⟩ := hc k hlt
      unfold maxLen at u3
      have hk1 : (k : Int) < (l.length : Int) := by omega
      by_cases hf : (nthC l k).ns.length ≤ 30
      · have HS : Hid (∀ j, j < k + 1 → (nthC l j).ns.length ≤ 30) := Lib.hid (fun j hj => by
          rcases Nat.lt_succ_iff_lt_or_eq.1 hj with hj | rfl
          · exact HALL.out j hj
          · exact hf)
        obtain ⟨m, hm⟩ : ∃ m, m = (nthC l k).ns.length := ⟨_, rfl⟩
        rw [← hm] at e2 hf u2
        have hf1 : (m : Int) ≤ 30 := by omega
        clear hc hm
        go_wp2
        exact ⟨⟨k + 1, by go_num, by omega, HS.out⟩, by simp [RowKit.intOf]; omega⟩
      · have HE : Hid (d = false) := Lib.hid (HD.out.trans (decide_eq_false fun h => hf (h.2 k hlt)))
        obtain ⟨m, hm⟩ : ∃ m, m = (nthC l k).ns.length := ⟨_, rfl⟩
        rw [← hm] at e2 hf u2
        have hf1 : (30 : Int) < (m : Int) := by omega
        clear hc hm
        go_wp2
        go_ret
        exact ⟨retB HE.out.symm, rfl⟩
    · obtain rfl : k = l.length := by omega
      have HE : Hid (d = decide ((l.length : Int) ≤ 6)) := Lib.hid (HD.out.trans <| by
        apply decide_eq_decide.2
        constructor
        · intro h
          have := h.1
          omega
        · intro h
          exact ⟨by omega, HALL.out⟩)
      clear HALL HC
      go_wp2
      go_ret
      exact ⟨retB HE.out.symm, rfl⟩
end Go.Proofs.YtbdenjmnohhhiaaDoor
