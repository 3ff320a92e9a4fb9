/-
  Roles fit together, in plain words (P19.4).
-/
import Derived.Test.YtajneoaljpljpaaRolA
namespace Go.Proofs.Ytajneoaljpljpaa
open Go.RowKit
set_option linter.unusedVariables false

theorem rl_in {c : Cf} (h : rgtB c = true) {k : Nat} (hk : k < c.ns.length) : rlOf c (c.ns.getD k 0) = insR c k := by
  unfold rlOf
  rw [if_pos h, if_pos (by rw [getD_at hk]; exact List.getElem_mem hk), plc_nodup (nsq_of h).2 hk]
theorem rl_join {c : Cf} (h : rgtB c = true) (h0 : c.jn ≠ 0) : rlOf c c.jn = joinR c := by
  unfold rlOf
  rw [if_pos h, if_neg (jn_not h h0).1, if_pos ⟨h0, rfl⟩]
/-- What any number is. -/
theorem rl_cases {c : Cf} (h : rgtB c = true) (n : Int) : (∃ k, k < c.ns.length ∧ n = c.ns.getD k 0 ∧ n ∈ c.ns ∧ rlOf c n = insR c k) ∨ (n ∉ c.ns ∧ n ≠ 0 ∧ n = c.jn ∧ rlOf c n = joinR c) ∨ (n ∉ c.ns ∧ rlOf c n = rl0) := by
  by_cases hm : n ∈ c.ns
  · refine .inl ⟨plc c.ns n, plc_lt hm, (plc_at hm).symm, hm, ?_⟩
    unfold rlOf
    rw [if_pos h, if_pos hm]
  · by_cases hj : n ≠ 0 ∧ n = c.jn
    · refine .inr (.inl ⟨hm, hj.1, hj.2, ?_⟩)
      unfold rlOf
      rw [if_pos h, if_neg hm, if_pos hj]
    · refine .inr (.inr ⟨hm, ?_⟩)
      unfold rlOf
      rw [if_pos h, if_neg hm, if_neg hj]
theorem ns_pos {c : Cf} (h : rgtB c = true) {k : Nat} (hk : k < c.ns.length) : 1 ≤ c.ns.getD k 0 ∧ c.ns.getD k 0 ≤ 24 := by
  rw [getD_at hk]
  exact (nsq_of h).1 _ (List.getElem_mem hk)
theorem len_pos {c : Cf} (h : rgtB c = true) : 1 ≤ c.ns.length ∧ c.ns.length ≤ 5 := ⟨(rgt_of h).2.2.2.1, (rgt_of h).2.2.2.2.1⟩
theorem jn_range {c : Cf} (h : rgtB c = true) : 0 ≤ c.jn ∧ c.jn ≤ 24 := by
  by_cases h0 : c.jn = 0
  · rw [h0]; decide
  · have := jn_not h h0; omega
theorem pred_range {c : Cf} (h : rgtB c = true) {k : Nat} (hk : k < c.ns.length) : 0 ≤ predN c k ∧ predN c k ≤ 24 := by
  unfold predN
  split
  · decide
  · have := ns_pos h (show k - 1 < c.ns.length by omega)
    omega
theorem succ_range {c : Cf} (h : rgtB c = true) {k : Nat} (hk : k < c.ns.length) : 0 ≤ succN c k ∧ succN c k ≤ 24 := by
  unfold succN
  split
  · exact jn_range h
  · have := ns_pos h (show k + 1 < c.ns.length by omega)
    omega
/-- Neighbours are nodes, or 0. -/
theorem near_range (c : Cf) (n : Int) : (0 ≤ (rlOf c n).pred ∧ (rlOf c n).pred ≤ 24) ∧ (0 ≤ (rlOf c n).succ ∧ (rlOf c n).succ ≤ 24) := by
  cases h : rgtB c with
  | false =>
    have : rlOf c n = rl0 := by unfold rlOf; rw [h]; rfl
    rw [this]
    decide
  | true =>
    rcases rl_cases h n with ⟨k, hk, _, _, e⟩ | ⟨_, _, _, e⟩ | ⟨_, e⟩
    · rw [e]
      exact ⟨pred_range h hk, succ_range h hk⟩
    · rw [e]
      have h1 := len_pos h
      have := ns_pos h (show c.ns.length - 1 < c.ns.length by omega)
      refine ⟨?_, (by show (0 : Int) ≤ 0 ∧ (0 : Int) ≤ 24; decide)⟩
      show 0 ≤ lastN c ∧ lastN c ≤ 24
      unfold lastN
      omega
    · rw [e]
      decide
theorem pred_back {c : Cf} (h : rgtB c = true) (n : Int) (hp : (rlOf c n).pred ≠ 0) : (rlOf c (rlOf c n).pred).succ = n := by
  rcases rl_cases h n with ⟨k, hk, hn, _, e⟩ | ⟨_, h0, hj, e⟩ | ⟨_, e⟩
  · rw [e] at hp ⊢
    have hp' : predN c k ≠ 0 := hp
    show (rlOf c (predN c k)).succ = n
    unfold predN at hp' ⊢
    by_cases h0 : k = 0
    · rw [if_pos h0] at hp'; exact absurd rfl hp'
    · rw [if_neg h0, rl_in h (by omega)]
      show succN c (k - 1) = n
      unfold succN
      rw [if_neg (by omega), show k - 1 + 1 = k by omega, hn]
  · rw [e]
    have h1 := len_pos h
    show (rlOf c (lastN c)).succ = n
    unfold lastN
    rw [rl_in h (by omega)]
    show succN c (c.ns.length - 1) = n
    unfold succN
    rw [if_pos (by omega), hj]
  · rw [e] at hp; exact absurd rfl hp
theorem succ_back {c : Cf} (h : rgtB c = true) (n : Int) (hp : (rlOf c n).succ ≠ 0) : (rlOf c (rlOf c n).succ).pred = n := by
  rcases rl_cases h n with ⟨k, hk, hn, _, e⟩ | ⟨_, h0, hj, e⟩ | ⟨_, e⟩
  · rw [e] at hp ⊢
    have hp' : succN c k ≠ 0 := hp
    show (rlOf c (succN c k)).pred = n
    unfold succN at hp' ⊢
    by_cases h0 : k + 1 = c.ns.length
    · rw [if_pos h0] at hp' ⊢
      rw [rl_join h hp']
      show lastN c = n
      unfold lastN
      rw [hn, show c.ns.length - 1 = k by omega]
    · rw [if_neg h0, rl_in h (by omega)]
      show predN c (k + 1) = n
      unfold predN
      rw [if_neg (by omega), show k + 1 - 1 = k by omega, hn]
  · rw [e] at hp; exact absurd rfl hp
  · rw [e] at hp; exact absurd rfl hp
theorem join_in (c : Cf) (n : Int) : ((rlOf c n).joins && (rlOf c n).inn) = false := by
  cases h : rgtB c with
  | false =>
    have : rlOf c n = rl0 := by unfold rlOf; rw [h]; rfl
    rw [this]
    rfl
  | true => rcases rl_cases h n with ⟨k, hk, _, _, e⟩ | ⟨_, _, _, e⟩ | ⟨_, e⟩ <;> rw [e] <;> rfl
theorem head_pred {c : Cf} (h : rgtB c = true) (n : Int) (hi : (rlOf c n).inn = true) : (rlOf c n).head = decide ((rlOf c n).pred = 0) := by
  rcases rl_cases h n with ⟨k, hk, hn, _, e⟩ | ⟨_, h0, hj, e⟩ | ⟨_, e⟩
  · rw [e]
    show decide (k = 0) = decide (predN c k = 0)
    refine decide_eq_decide.2 ?_
    unfold predN
    by_cases h0 : k = 0
    · rw [if_pos h0]; exact ⟨fun _ => rfl, fun _ => h0⟩
    · rw [if_neg h0]
      have := ns_pos h (show k - 1 < c.ns.length by omega)
      omega
  · rw [e] at hi; cases hi
  · rw [e] at hi; cases hi
theorem tail_succ {c : Cf} (h : rgtB c = true) (n : Int) (hi : (rlOf c n).inn = true) : (rlOf c n).tail = decide ((rlOf c n).succ = c.jn) := by
  rcases rl_cases h n with ⟨k, hk, hn, _, e⟩ | ⟨_, h0, hj, e⟩ | ⟨_, e⟩
  · rw [e]
    show decide (k + 1 = c.ns.length) = decide (succN c k = c.jn)
    refine decide_eq_decide.2 ?_
    unfold succN
    by_cases h0 : k + 1 = c.ns.length
    · rw [if_pos h0]; exact ⟨fun _ => rfl, fun _ => h0⟩
    · rw [if_neg h0]
      refine ⟨fun h1 => absurd h1 h0, fun h1 => ?_⟩
      have h2 := ns_pos h (show k + 1 < c.ns.length by omega)
      have h3 := jn_not h (by omega)
      exact absurd (by rw [← h1, getD_at (by omega)]; exact List.getElem_mem _) h3.1
  · rw [e] at hi; cases hi
  · rw [e] at hi; cases hi
/-! ### how many there are -/
/-- Of the numbers up to N those that are nodes. -/
def cntN (l : List Int) (N : Int) : Nat := l.countP (fun x => decide (x ≤ N))
theorem cnt_zero {l : List Int} (h : ∀ x ∈ l, 1 ≤ x) : cntN l 0 = 0 := by
  unfold cntN
  rw [List.countP_eq_zero]
  intro x hx
  have := h x hx
  simp only [decide_eq_true_eq]
  omega
theorem cnt_all {l : List Int} {N : Int} (h : ∀ x ∈ l, x ≤ N) : cntN l N = l.length := by
  unfold cntN
  rw [List.countP_eq_length]
  intro x hx
  simpa using h x hx
theorem cnt_step {l : List Int} (h : l.Nodup) (N : Int) : cntN l (N + 1) = cntN l N + (if N + 1 ∈ l then 1 else 0) := by
  induction l with
  | nil => simp [cntN]
  | cons y l ih =>
    have hd := List.nodup_cons.1 h
    have hi := ih hd.2
    unfold cntN at hi ⊢
    rw [List.countP_cons, List.countP_cons, hi]
    by_cases e : y = N + 1
    · subst e
      have h2 : ¬ N + 1 ≤ N := by omega
      simp [hd.1, h2]
    · have h1 : (N + 1 ∈ y :: l) ↔ N + 1 ∈ l := by
        rw [List.mem_cons]
        exact ⟨fun h => h.elim (fun h => absurd h.symm e) id, .inr⟩
      have h2 : decide (y ≤ N + 1) = decide (y ≤ N) := decide_eq_decide.2 (by omega)
      rw [h2]
      simp only [h1]
      omega
theorem in_iff {c : Cf} (h : rgtB c = true) (n : Int) : (rlOf c n).inn = decide (n ∈ c.ns) := by
  rcases rl_cases h n with ⟨k, hk, hn, hm, e⟩ | ⟨hm, h0, hj, e⟩ | ⟨hm, e⟩
  · rw [e, decide_eq_true hm]; rfl
  · rw [e, decide_eq_false hm]; rfl
  · rw [e, decide_eq_false hm]; rfl
theorem head_iff {c : Cf} (h : rgtB c = true) (n : Int) : (rlOf c n).head = decide (n = c.ns.getD 0 0) := by
  have hl := len_pos h
  rcases rl_cases h n with ⟨k, hk, hn, hm, e⟩ | ⟨hm, h0, hj, e⟩ | ⟨hm, e⟩
  · rw [e]
    show decide (k = 0) = _
    refine decide_eq_decide.2 ⟨fun h0 => by rw [hn, h0], fun h1 => ?_⟩
    exact nodup_place (nsq_of h).2 hk (by omega) (hn ▸ h1)
  · rw [e]
    show false = _
    refine (decide_eq_false fun h1 => hm ?_).symm
    rw [h1, getD_at (by omega)]; exact List.getElem_mem _
  · rw [e]
    show false = _
    refine (decide_eq_false fun h1 => hm ?_).symm
    rw [h1, getD_at (by omega)]; exact List.getElem_mem _
theorem tail_iff {c : Cf} (h : rgtB c = true) (n : Int) : (rlOf c n).tail = decide (n = c.ns.getD (c.ns.length - 1) 0) := by
  have hl := len_pos h
  rcases rl_cases h n with ⟨k, hk, hn, hm, e⟩ | ⟨hm, h0, hj, e⟩ | ⟨hm, e⟩
  · rw [e]
    show decide (k + 1 = c.ns.length) = _
    refine decide_eq_decide.2 ⟨fun h0 => by rw [hn, show c.ns.length - 1 = k by omega], fun h1 => ?_⟩
    have := nodup_place (nsq_of h).2 hk (show c.ns.length - 1 < c.ns.length by omega) (hn ▸ h1)
    omega
  · rw [e]
    show false = _
    refine (decide_eq_false fun h1 => hm ?_).symm
    rw [h1, getD_at (by omega)]; exact List.getElem_mem _
  · rw [e]
    show false = _
    refine (decide_eq_false fun h1 => hm ?_).symm
    rw [h1, getD_at (by omega)]; exact List.getElem_mem _
end Go.Proofs.Ytajneoaljpljpaa
