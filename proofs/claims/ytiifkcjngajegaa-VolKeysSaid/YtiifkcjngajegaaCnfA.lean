/-
  Configurations, in plain words: which may be, alone and together.
-/
import Derived.Test.YtiifkcjngajegaaBase
namespace Go.Proofs.Ytiifkcjngajegaa
set_option linter.unusedVariables false

/-- A configuration. -/
structure Cf where
  ch : Int
  ep : Int
  ns : List Int
  fr : Bool
  jn : Int
instance : DecidableEq Cf := fun a b => decidable_of_decidable_of_iff (p := a.ch = b.ch ∧ a.ep = b.ep ∧ a.ns = b.ns ∧ a.fr = b.fr ∧ a.jn = b.jn) (by cases a; cases b; simp)
def cf0 : Cf := ⟨0, 0, [], false, 0⟩
/-- All that stand there. -/
def Cf.mem (c : Cf) : List Int := if c.jn = 0 then c.ns else c.ns ++ [c.jn]
/-- Nodes, none twice. -/
def Unq (l : List Int) : Prop := (∀ x ∈ l, 1 ≤ x ∧ x ≤ 24) ∧ l.Nodup
instance (l : List Int) : Decidable (Unq l) := inferInstanceAs (Decidable (_ ∧ _))
def unqB (l : List Int) : Bool := decide (Unq l)
theorem getD_at {l : List Int} {k : Nat} (h : k < l.length) : l.getD k 0 = l[k] := by rw [List.getD_eq_getElem?_getD, List.getElem?_eq_getElem h]; rfl
theorem take_one {l : List Int} {k : Nat} (h : k < l.length) : l.take (k + 1) = l.take k ++ [l.getD k 0] := by rw [List.take_succ_eq_append_getElem h, getD_at h]
theorem unq_nil : Unq [] := ⟨(fun _ h => by cases h), List.nodup_nil⟩
theorem unq_step {l : List Int} {k : Nat} (h : k < l.length) (hk : Unq (l.take k)) (h1 : 1 ≤ l.getD k 0) (h2 : l.getD k 0 ≤ 24) (h3 : l.getD k 0 ∉ l.take k) : Unq (l.take (k + 1)) := by
  rw [take_one h]
  refine ⟨fun x hx => ?_, ?_⟩
  · rcases List.mem_append.1 hx with hx | hx
    · exact hk.1 x hx
    · simp only [List.mem_singleton] at hx
      subst hx
      exact ⟨h1, h2⟩
  · refine List.nodup_append.2 ⟨hk.2, by simp, fun a ha b hb => ?_⟩
    simp only [List.mem_singleton] at hb
    subst hb
    rintro rfl
    exact h3 ha
theorem unq_take {l : List Int} (h : Unq l) (k : Nat) : Unq (l.take k) := ⟨fun x hx => h.1 x (List.mem_of_mem_take hx), h.2.sublist (List.take_sublist _ _)⟩
theorem unq_bad {l : List Int} {k : Nat} (h : k < l.length) (hb : l.getD k 0 < 1 ∨ 24 < l.getD k 0 ∨ l.getD k 0 ∈ l.take k) : unqB l = false := by
  unfold unqB
  refine decide_eq_false fun hu => ?_
  have hm : l.getD k 0 ∈ l := by rw [getD_at h]; exact List.getElem_mem h
  have h1 := hu.1 _ hm
  rcases hb with hb | hb | hb
  · omega
  · omega
  · have h2 := (unq_take hu (k + 1)).2
    rw [take_one h] at h2
    exact (List.nodup_append.1 h2).2.2 _ hb _ (by simp) rfl
theorem unq_all {l : List Int} (h : Unq (l.take l.length)) : unqB l = true := by rw [List.take_length] at h; exact decide_eq_true h
theorem unq_len {l : List Int} (h : Unq l) : l.length ≤ 24 := by
  have key : ∀ (n : Nat) (l : List Int), (∀ x ∈ l, 1 ≤ x ∧ x ≤ n) → l.Nodup → l.length ≤ n := by
    intro n
    induction n with
    | zero =>
      intro l hl _
      cases l with
      | nil => simp
      | cons x l => have := hl x (by simp); omega
    | succ n ih =>
      intro l hl hd
      have h1 := ih (l.erase ((n : Int) + 1)) (fun x hx => by
        have hx' := (hd.mem_erase_iff).1 hx
        have := hl x hx'.2
        have := hx'.1
        omega) (hd.erase _)
      have : l.length ≤ (l.erase ((n : Int) + 1)).length + 1 := by rw [List.length_erase]; split <;> omega
      omega
  exact key 24 l (fun x hx => by have := h.1 x hx; omega) h.2
/-- May it be? -/
def Rgt (c : Cf) : Prop := 0 ≤ c.ch ∧ c.ch ≤ 3 ∧ 1 ≤ c.ep ∧ 1 ≤ c.ns.length ∧ c.ns.length ≤ 5 ∧ (c.fr = true → 2 ≤ c.ns.length ∧ c.jn = 0) ∧ Unq c.mem
instance (c : Cf) : Decidable (Rgt c) := inferInstanceAs (Decidable (_ ∧ _ ∧ _ ∧ _ ∧ _ ∧ _ ∧ _))
def rgtB (c : Cf) : Bool := decide (Rgt c)
/-- Who is settled. -/
def Cf.set (c : Cf) : List Int := if Rgt c then (if c.fr then c.ns.take (c.ns.length - 1) else c.ns) else []
/-- Does a node stand in one of them? -/
def usedB (l : List Cf) (n : Int) : Bool := l.any fun c => decide (n ∈ c.mem)
def nthC (l : List Cf) (i : Nat) : Cf := l.getD i cf0
theorem nthC_at {l : List Cf} {i : Nat} (h : i < l.length) : nthC l i = l[i] := by unfold nthC; rw [List.getD_eq_getElem?_getD, List.getElem?_eq_getElem h]; rfl
theorem takeC {l : List Cf} {k : Nat} (h : k < l.length) : l.take (k + 1) = l.take k ++ [nthC l k] := by rw [List.take_succ_eq_append_getElem h, nthC_at h]
theorem usedB_take {l : List Cf} {k : Nat} {n : Int} (h : k < l.length) : usedB (l.take (k + 1)) n = (usedB (l.take k) n || decide (n ∈ (nthC l k).mem)) := by
  unfold usedB
  rw [takeC h, List.any_append]
  simp
theorem usedB_hit {l : List Cf} {k : Nat} {n : Int} (h : k < l.length) (hn : n ∈ (nthC l k).mem) : usedB l n = true := by
  unfold usedB
  rw [nthC_at h] at hn
  exact List.any_eq_true.2 ⟨_, List.getElem_mem h, by simpa using hn⟩
/-- May they be, together? One by one. -/
def OneOk (l : List Cf) (i : Nat) : Prop := Rgt (nthC l i) ∧ (nthC l i).ch = i ∧ ∀ x ∈ (nthC l i).mem, usedB (l.take i) x = false
instance (l : List Cf) (i : Nat) : Decidable (OneOk l i) := inferInstanceAs (Decidable (_ ∧ _ ∧ _))
def AllC (l : List Cf) : Prop := 1 ≤ l.length ∧ l.length ≤ 4 ∧ ∀ i, i < l.length → OneOk l i
instance (l : List Cf) : Decidable (AllC l) := inferInstanceAs (Decidable (_ ∧ _ ∧ _))
def allB (l : List Cf) : Bool := decide (AllC l)
theorem all_bad {l : List Cf} {k : Nat} (h : k < l.length) (hb : ¬ OneOk l k) : allB l = false := decide_eq_false fun hu => hb (hu.2.2 k h)
theorem all_len {l : List Cf} (h : l.length < 1 ∨ 4 < l.length) : allB l = false := decide_eq_false fun hu => by have := hu.1; have := hu.2.1; omega
/-- All that stand in any of them. -/
def memL (l : List Cf) : List Int := l.flatMap Cf.mem
theorem memL_take {l : List Cf} {k : Nat} (h : k < l.length) : memL (l.take (k + 1)) = memL (l.take k) ++ (nthC l k).mem := by
  unfold memL
  rw [takeC h, List.flatMap_append]
  simp
theorem mem_memL {l : List Cf} {x : Int} : x ∈ memL l ↔ usedB l x = true := by
  unfold memL usedB
  simp [List.mem_flatMap, List.any_eq_true]
/-- The answer's way: each one may be and has its place; then no node twice at all. -/
theorem all_unq {l : List Cf} (h : ∀ i, i < l.length → Rgt (nthC l i) ∧ (nthC l i).ch = i) : allB l = (decide (1 ≤ l.length) && decide (l.length ≤ 4) && unqB (memL l)) := by
  have key : ∀ k, k ≤ l.length → (Unq (memL (l.take k)) ↔ ∀ i, i < k → ∀ x ∈ (nthC l i).mem, usedB (l.take i) x = false) := by
    intro k
    induction k with
    | zero => intro _; simp [memL, unq_nil]
    | succ k ih =>
      intro hk
      have hi := ih (by omega)
      rw [memL_take (by omega)]
      constructor
      · intro hu i hik x hx
        have h1 : Unq (memL (l.take k)) := ⟨fun y hy => hu.1 y (List.mem_append_left _ hy), (List.nodup_append.1 hu.2).1⟩
        by_cases e : i = k
        · subst e
          cases hus : usedB (l.take i) x with
          | false => rfl
          | true =>
            have := (List.nodup_append.1 hu.2).2.2 x (mem_memL.2 hus) x hx
            exact absurd rfl this
        · exact hi.1 h1 i (by omega) x hx
      · intro hf
        have h1 := hi.2 (fun i hik => hf i (by omega))
        have h2 := (h k (by omega)).1.2.2.2.2.2.2
        refine ⟨fun y hy => ?_, List.nodup_append.2 ⟨h1.2, h2.2, fun a ha b hb => ?_⟩⟩
        · rcases List.mem_append.1 hy with hy | hy
          · exact h1.1 y hy
          · exact h2.1 y hy
        · rintro rfl
          have := hf k (by omega) a hb
          rw [mem_memL.1 ha] at this
          cases this
  have hk := key l.length (Nat.le_refl _)
  rw [List.take_length] at hk
  unfold allB unqB
  rw [Bool.eq_iff_iff]
  simp only [Bool.and_eq_true, decide_eq_true_eq, and_assoc]
  constructor
  · rintro ⟨h1, h2, h3⟩
    exact ⟨h1, h2, hk.2 fun i hi => (h3 i hi).2.2⟩
  · rintro ⟨h1, h2, h3⟩
    exact ⟨h1, h2, fun i hi => ⟨(h i hi).1, (h i hi).2, hk.1 h3 i hi⟩⟩
end Go.Proofs.Ytiifkcjngajegaa
