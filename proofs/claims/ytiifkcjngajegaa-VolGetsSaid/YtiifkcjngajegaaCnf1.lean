/-
  Configurations, in plain words: which may be, alone and together. Configurations, in plain words: what commands make of them, and what stays. Configurations in memory: numbers in a slice, one configuration, a slice of them. Configurations, in plain words: one order, one in both; with which they begin; whether two lists are the same. Package conf: numbers in a slice: is one in it, are they nodes, none twice. Numbers in a row of the call's own; append from a slice, and to one that is clipped. Package conf and its answer: who stands in a configuration; may it be. Package conf and its answer: may a configuration be. Package conf: Right.
-/
import Derived.Test.YtiifkcjngajegaaBase
import Derived.Test.YtiifkcjngajegaaProg
import Derived.WalkKit
import Derived.WalkSpells
import Derived.WalkLawsBesides
import Derived.RegionTactic
import Derived.BigRegion
import Derived.Deep.QuietTactic
import Derived.BigQuiet
import Derived.Deep.RegionHeld3
import Derived.Deep.AppendLies
import Derived.Deep.RegionLaw
import Derived.ArgAppend
import Derived.StillTailTactics
import Derived.Lib.Hide
import Derived.Outline
import Derived.KernelRfl
import Derived.Maps.AppendAt
import Derived.Laws.AppendOwnNone
namespace Go.Proofs.Ytiifkcjngajegaa
set_option linter.unusedVariables false

/-- A configuration. -/
structure Cf where
  ch : Int
  ep : Int
  ns : List Int
  fr : Bool
  jn : Int
instance : DecidableEq Cf := fun a b => decidable_of_decidable_of_iff (p := a.ch = b.ch ∧ a.ep = b.ep ∧ a.ns = b.ns ∧ a.fr = b.fr ∧ a.jn = b.jn) (by cases a; cases b; simp)
def cf0 : Cf := ⟨0, 0, [], false, 0⟩
/-- All that stand there. -/
def Cf.mem (c : Cf) : List Int := if c.jn = 0 then c.ns else c.ns ++ [c.jn]
/-- Nodes, none twice. -/
def Unq (l : List Int) : Prop := (∀ x ∈ l, 1 ≤ x ∧ x ≤ 24) ∧ l.Nodup
instance (l : List Int) : Decidable (Unq l) := inferInstanceAs (Decidable (_ ∧ _))
def unqB (l : List Int) : Bool := decide (Unq l)
theorem getD_at {l : List Int} {k : Nat} (h : k < l.length) : l.getD k 0 = l[k] := by rw [List.getD_eq_getElem?_getD, List.getElem?_eq_getElem h]; rfl
theorem take_one {l : List Int} {k : Nat} (h : k < l.length) : l.take (k + 1) = l.take k ++ [l.getD k 0] := by rw [List.take_succ_eq_append_getElem h, getD_at h]
theorem unq_nil : Unq [] := ⟨(fun _ h => by cases h), List.nodup_nil⟩
theorem unq_step {l : List Int} {k : Nat} (h : k < l.length) (hk : Unq (l.take k)) (h1 : 1 ≤ l.getD k 0) (h2 : l.getD k 0 ≤ 24) (h3 : l.getD k 0 ∉ l.take k) : Unq (l.take (k + 1)) := by
  rw [take_one h]
  refine ⟨fun x hx => ?_, ?_⟩
  · rcases List.mem_append.1 hx with hx | hx
    · exact hk.1 x hx
    · simp only [List.mem_singleton] at hx
      subst hx
      exact ⟨h1, h2⟩
  · refine List.nodup_append.2 ⟨hk.2, by simp, fun a ha b hb => ?_⟩
    simp only [List.mem_singleton] at hb
    subst hb
    rintro rfl
    exact h3 ha
theorem unq_take {l : List Int} (h : Unq l) (k : Nat) : Unq (l.take k) := ⟨fun x hx => h.1 x (List.mem_of_mem_take hx), h.2.sublist (List.take_sublist _ _)⟩
theorem unq_bad {l : List Int} {k : Nat} (h : k < l.length) (hb : l.getD k 0 < 1 ∨ 24 < l.getD k 0 ∨ l.getD k 0 ∈ l.take k) : unqB l = false := by
  unfold unqB
  refine decide_eq_false fun hu => ?_
  have hm : l.getD k 0 ∈ l := by rw [getD_at h]; exact List.getElem_mem h
  have h1 := hu.1 _ hm
  rcases hb with hb | hb | hb
  · omega
  · omega
  · have h2 := (unq_take hu (k + 1)).2
    rw [take_one h] at h2
    exact (List.nodup_append.1 h2).2.2 _ hb _ (by simp) rfl
theorem unq_all {l : List Int} (h : Unq (l.take l.length)) : unqB l = true := by rw [List.take_length] at h; exact decide_eq_true h
theorem unq_len {l : List Int} (h : Unq l) : l.length ≤ 24 := by
  have key : ∀ (n : Nat) (l : List Int), (∀ x ∈ l, 1 ≤ x ∧ x ≤ n) → l.Nodup → l.length ≤ n := by
    intro n
    induction n with
    | zero =>
      intro l hl _
      cases l with
      | nil => simp
      | cons x l => have := hl x (by simp); omega
    | succ n ih =>
      intro l hl hd
      have h1 := ih (l.erase ((n : Int) + 1)) (fun x hx => by
        have hx' := (hd.mem_erase_iff).1 hx
        have := hl x hx'.2
        have := hx'.1
        omega) (hd.erase _)
      have : l.length ≤ (l.erase ((n : Int) + 1)).length + 1 := by rw [List.length_erase]; split <;> omega
      omega
  exact key 24 l (fun x hx => by have := h.1 x hx; omega) h.2
/-- May it be? -/
def Rgt (c : Cf) : Prop := 0 ≤ c.ch ∧ c.ch ≤ 3 ∧ 1 ≤ c.ep ∧ 1 ≤ c.ns.length ∧ c.ns.length ≤ 5 ∧ (c.fr = true → 2 ≤ c.ns.length ∧ c.jn = 0) ∧ Unq c.mem
instance (c : Cf) : Decidable (Rgt c) := inferInstanceAs (Decidable (_ ∧ _ ∧ _ ∧ _ ∧ _ ∧ _ ∧ _))
def rgtB (c : Cf) : Bool := decide (Rgt c)
/-- Who is settled. -/
def Cf.set (c : Cf) : List Int := if Rgt c then (if c.fr then c.ns.take (c.ns.length - 1) else c.ns) else []
/-- Does a node stand in one of them? -/
def usedB (l : List Cf) (n : Int) : Bool := l.any fun c => decide (n ∈ c.mem)
def nthC (l : List Cf) (i : Nat) : Cf := l.getD i cf0
theorem nthC_at {l : List Cf} {i : Nat} (h : i < l.length) : nthC l i = l[i] := by unfold nthC; rw [List.getD_eq_getElem?_getD, List.getElem?_eq_getElem h]; rfl
theorem takeC {l : List Cf} {k : Nat} (h : k < l.length) : l.take (k + 1) = l.take k ++ [nthC l k] := by rw [List.take_succ_eq_append_getElem h, nthC_at h]
theorem usedB_take {l : List Cf} {k : Nat} {n : Int} (h : k < l.length) : usedB (l.take (k + 1)) n = (usedB (l.take k) n || decide (n ∈ (nthC l k).mem)) := by
  unfold usedB
  rw [takeC h, List.any_append]
  simp
theorem usedB_hit {l : List Cf} {k : Nat} {n : Int} (h : k < l.length) (hn : n ∈ (nthC l k).mem) : usedB l n = true := by
  unfold usedB
  rw [nthC_at h] at hn
  exact List.any_eq_true.2 ⟨_, List.getElem_mem h, by simpa using hn⟩
/-- May they be, together? One by one. -/
def OneOk (l : List Cf) (i : Nat) : Prop := Rgt (nthC l i) ∧ (nthC l i).ch = i ∧ ∀ x ∈ (nthC l i).mem, usedB (l.take i) x = false
instance (l : List Cf) (i : Nat) : Decidable (OneOk l i) := inferInstanceAs (Decidable (_ ∧ _ ∧ _))
def AllC (l : List Cf) : Prop := 1 ≤ l.length ∧ l.length ≤ 4 ∧ ∀ i, i < l.length → OneOk l i
instance (l : List Cf) : Decidable (AllC l) := inferInstanceAs (Decidable (_ ∧ _ ∧ _))
def allB (l : List Cf) : Bool := decide (AllC l)
theorem all_bad {l : List Cf} {k : Nat} (h : k < l.length) (hb : ¬ OneOk l k) : allB l = false := decide_eq_false fun hu => hb (hu.2.2 k h)
theorem all_len {l : List Cf} (h : l.length < 1 ∨ 4 < l.length) : allB l = false := decide_eq_false fun hu => by have := hu.1; have := hu.2.1; omega
/-- All that stand in any of them. -/
def memL (l : List Cf) : List Int := l.flatMap Cf.mem
theorem memL_take {l : List Cf} {k : Nat} (h : k < l.length) : memL (l.take (k + 1)) = memL (l.take k) ++ (nthC l k).mem := by
  unfold memL
  rw [takeC h, List.flatMap_append]
  simp
theorem mem_memL {l : List Cf} {x : Int} : x ∈ memL l ↔ usedB l x = true := by
  unfold memL usedB
  simp [List.mem_flatMap, List.any_eq_true]
/-- The answer's way: each one may be and has its place; then no node twice at all. -/
theorem all_unq {l : List Cf} (h : ∀ i, i < l.length → Rgt (nthC l i) ∧ (nthC l i).ch = i) : allB l = (decide (1 ≤ l.length) && decide (l.length ≤ 4) && unqB (memL l)) := by
  have key : ∀ k, k ≤ l.length → (Unq (memL (l.take k)) ↔ ∀ i, i < k → ∀ x ∈ (nthC l i).mem, usedB (l.take i) x = false) := by
    intro k
    induction k with
    | zero => intro _; simp [memL, unq_nil]
    | succ k ih =>
      intro hk
      have hi := ih (by omega)
      rw [memL_take (by omega)]
      constructor
      · intro hu i hik x hx
        have h1 : Unq (memL (l.take k)) := ⟨fun y hy => hu.1 y (List.mem_append_left _ hy), (List.nodup_append.1 hu.2).1⟩
        by_cases e : i = k
        · subst e
          cases hus : usedB (l.take i) x with
          | false => rfl
          | true =>
            have := (List.nodup_append.1 hu.2).2.2 x (mem_memL.2 hus) x hx
            exact absurd rfl this
        · exact hi.1 h1 i (by omega) x hx
      · intro hf
        have h1 := hi.2 (fun i hik => hf i (by omega))
        have h2 := (h k (by omega)).1.2.2.2.2.2.2
        refine ⟨fun y hy => ?_, List.nodup_append.2 ⟨h1.2, h2.2, fun a ha b hb => ?_⟩⟩
        · rcases List.mem_append.1 hy with hy | hy
          · exact h1.1 y hy
          · exact h2.1 y hy
        · rintro rfl
          have := hf k (by omega) a hb
          rw [mem_memL.1 ha] at this
          cases this
  have hk := key l.length (Nat.le_refl _)
  rw [List.take_length] at hk
  unfold allB unqB
  rw [Bool.eq_iff_iff]
  simp only [Bool.and_eq_true, decide_eq_true_eq, and_assoc]
  constructor
  · rintro ⟨h1, h2, h3⟩
    exact ⟨h1, h2, hk.2 fun i hi => (h3 i hi).2.2⟩
  · rintro ⟨h1, h2, h3⟩
    exact ⟨h1, h2, fun i hi => ⟨(h i hi).1, (h i hi).2, hk.1 h3 i hi⟩⟩
end Go.Proofs.Ytiifkcjngajegaa
namespace Go.Proofs.Ytiifkcjngajegaa
set_option linter.unusedVariables false

def Cf.last (c : Cf) : Int := c.ns.getD (c.ns.length - 1) 0
/-- Of the chain's own configuration: the error. -/
def canK (l : List Cf) (c : Cf) (k nd : Int) : Int :=
  if k = 1 then (if nd ∉ c.mem then 7 else if ∀ x ∈ c.set, x = nd then 12 else 0)
  else if k = 2 then (if usedB l nd = true then 8 else if c.jn ≠ 0 ∨ c.fr = true then 12 else if 5 ≤ c.ns.length then 9 else 0)
  else if k = 3 then (if c.jn ≠ nd then 7 else if 5 ≤ c.ns.length then 9 else 0)
  else (if c.fr = false ∨ c.last ≠ nd then 7 else 0)
def topE : Int := 18446744073709551615
/-- The error of a command; e0: that of the command alone. -/
def canC (l : List Cf) (e0 k ch ep nd : Int) : Int :=
  if ¬ AllC l then 1 else if e0 ≠ 0 then e0 else if k = 0 then 0 else if (l.length : Int) ≤ ch then 7 else if ep ≠ (nthC l ch.toNat).ep then 10
  else if canK l (nthC l ch.toNat) k nd ≠ 0 then canK l (nthC l ch.toNat) k nd else if (nthC l ch.toNat).ep = topE then 9 else 0
/-- What a command makes of its chain's configuration. -/
def madeC (c : Cf) (k nd : Int) : Cf :=
  if k = 1 then (if c.jn = nd then ⟨c.ch, c.ep + 1, c.ns, c.fr, 0⟩ else ⟨c.ch, c.ep + 1, c.ns.filter (fun x => decide (x ≠ nd)), c.fr && decide (c.last ≠ nd), c.jn⟩)
  else if k = 2 then ⟨c.ch, c.ep + 1, c.ns, c.fr, nd⟩
  else if k = 3 then ⟨c.ch, c.ep + 1, c.ns ++ [nd], true, 0⟩
  else ⟨c.ch, c.ep + 1, c.ns, false, c.jn⟩
def doC (l : List Cf) (e0 k ch ep nd : Int) : List Cf :=
  if canC l e0 k ch ep nd ≠ 0 then l else if k = 0 then l else l.set ch.toNat (madeC (nthC l ch.toNat) k nd)
/-- What is possible, is this. -/
theorem can_ok {l : List Cf} {e0 k ch ep nd : Int} (h : canC l e0 k ch ep nd = 0) : AllC l ∧ e0 = 0 ∧ (k = 0 ∨ (k ≠ 0 ∧ ch < l.length ∧ ep = (nthC l ch.toNat).ep ∧ canK l (nthC l ch.toNat) k nd = 0 ∧ (nthC l ch.toNat).ep ≠ topE)) := by
  unfold canC at h
  by_cases h1 : AllC l
  · rw [if_neg (fun x => x h1)] at h
    by_cases h2 : e0 = 0
    · rw [if_neg (fun x => x h2)] at h
      by_cases h3 : k = 0
      · exact ⟨h1, h2, .inl h3⟩
      · rw [if_neg h3] at h
        by_cases h4 : (l.length : Int) ≤ ch
        · rw [if_pos h4] at h; cases h
        · rw [if_neg h4] at h
          by_cases h5 : ep = (nthC l ch.toNat).ep
          · rw [if_neg (fun x => x h5)] at h
            by_cases h6 : canK l (nthC l ch.toNat) k nd = 0
            · rw [if_neg (fun x => x h6)] at h
              by_cases h7 : (nthC l ch.toNat).ep = topE
              · rw [if_pos h7] at h; cases h
              · exact ⟨h1, h2, .inr ⟨h3, by omega, h5, h6, h7⟩⟩
            · rw [if_pos h6] at h; exact absurd h h6
          · rw [if_pos h5] at h; cases h
    · rw [if_pos h2] at h; exact absurd h h2
  · rw [if_pos h1] at h; cases h
theorem last_mem {c : Cf} (h : 1 ≤ c.ns.length) : c.last ∈ c.ns := by
  unfold Cf.last
  rw [getD_at (by omega)]
  exact List.getElem_mem _
theorem ns_split {c : Cf} (h : 1 ≤ c.ns.length) : c.ns = c.ns.take (c.ns.length - 1) ++ [c.last] := by
  have := take_one (l := c.ns) (k := c.ns.length - 1) (by omega)
  rw [show c.ns.length - 1 + 1 = c.ns.length by omega, List.take_length] at this
  exact this
theorem ns_mem {c : Cf} {x : Int} (h : x ∈ c.ns) : x ∈ c.mem := by
  unfold Cf.mem
  split
  · exact h
  · exact List.mem_append_left _ h
theorem unq_ns {c : Cf} (h : Unq c.mem) : Unq c.ns := by
  unfold Cf.mem at h
  split at h
  · exact h
  · exact ⟨fun x hx => h.1 x (List.mem_append_left _ hx), (List.nodup_append.1 h.2).1⟩
theorem unq_filter {l : List Int} (h : Unq l) (p : Int → Bool) : Unq (l.filter p) := ⟨fun x hx => h.1 x (List.mem_filter.1 hx).1, h.2.sublist List.filter_sublist⟩
theorem unq_app {l : List Int} {x : Int} (h : Unq l) (h1 : 1 ≤ x) (h2 : x ≤ 24) (h3 : x ∉ l) : Unq (l ++ [x]) := by
  refine ⟨fun y hy => ?_, List.nodup_append.2 ⟨h.2, by simp, fun a ha b hb => ?_⟩⟩
  · rcases List.mem_append.1 hy with hy | hy
    · exact h.1 y hy
    · simp only [List.mem_singleton] at hy; omega
  · simp only [List.mem_singleton] at hb
    rintro rfl
    subst hb
    exact h3 ha
theorem two_len {l : List Int} {a b : Int} (ha : a ∈ l) (hb : b ∈ l) (hne : a ≠ b) : 2 ≤ l.length := by
  match l, ha, hb with
  | [x], ha, hb =>
    simp only [List.mem_singleton] at ha hb
    omega
  | _ :: _ :: _, _, _ => simp
theorem one_len {l : List Int} {a : Int} (ha : a ∈ l) : 1 ≤ l.length := by
  cases l with
  | nil => cases ha
  | cons x l => simp
/-- What a possible command makes of a configuration that may be: it may be; its nodes are those, or the command's; one that was settled is settled; what stays keeps its order. -/
structure Goes (c d : Cf) (nd : Int) : Prop where
  rgt : Rgt d
  ch : d.ch = c.ch
  ep : d.ep = c.ep + 1
  mem : ∀ x ∈ d.mem, x ∈ c.mem ∨ (x = nd ∧ 1 ≤ nd)
  set : ∃ x, x ∈ c.set ∧ x ∈ d.set
  ns : ∃ (p : Int → Bool) (ex : List Int), d.ns = c.ns.filter p ++ ex ∧ ex.length ≤ 1 ∧ ∀ x ∈ ex, x ∉ c.ns
theorem set_rgt {c : Cf} (h : Rgt c) : c.set = if c.fr then c.ns.take (c.ns.length - 1) else c.ns := if_pos h
theorem filter_all (l : List Int) : l.filter (fun _ => true) ++ [] = l := by simp
theorem made_goes {l : List Cf} {c : Cf} {k nd : Int} (hc : Rgt c) (hk : 1 ≤ k) (hk4 : k ≤ 4) (h1 : 1 ≤ nd) (h2 : nd ≤ 24) (hu : usedB l nd = false → nd ∉ c.mem) (h : canK l c k nd = 0) (he : c.ep ≠ topE) (he2 : c.ep ≤ topE) :
    Goes c (madeC c k nd) nd ∧ (∀ x ∈ (madeC c k nd).mem, x ∈ c.mem ∨ usedB l x = false) := by
  have hset := set_rgt hc
  obtain ⟨r1, r2, r3, r4, r5, r6, r7⟩ := hc
  have hun := unq_ns r7
  have hsp := ns_split r4
  have hlast := last_mem r4
  have hc : Rgt c := ⟨r1, r2, r3, r4, r5, r6, r7⟩
  unfold canK at h
  by_cases k1 : k = 1
  · rw [if_pos k1] at h
    by_cases hm : nd ∉ c.mem
    · rw [if_pos hm] at h; cases h
    rw [if_neg hm] at h
    by_cases ha : ∀ x ∈ c.set, x = nd
    · rw [if_pos ha] at h; cases h
    obtain ⟨x, hx, hxn⟩ : ∃ x, x ∈ c.set ∧ x ≠ nd := by
      refine Classical.byContradiction fun hno => ha fun x hx => Classical.byContradiction fun hne => hno ⟨x, hx, hne⟩
    by_cases hj : c.jn = nd
    · have hmd : madeC c k nd = ⟨c.ch, c.ep + 1, c.ns, c.fr, 0⟩ := by unfold madeC; rw [if_pos k1, if_pos hj]
      have hr : Rgt ⟨c.ch, c.ep + 1, c.ns, c.fr, 0⟩ := ⟨r1, r2, by show 1 ≤ c.ep + 1; omega, r4, r5, fun hf => ⟨(r6 hf).1, rfl⟩, hun⟩
      have hmem : ∀ y ∈ (Cf.mk c.ch (c.ep + 1) c.ns c.fr 0).mem, y ∈ c.mem := fun y hy => ns_mem hy
      rw [hmd]
      refine ⟨⟨hr, rfl, rfl, fun y hy => .inl (hmem y hy), ⟨x, hx, ?_⟩, ⟨fun _ => true, [], (filter_all _).symm, by simp, fun _ h => by cases h⟩⟩, fun y hy => .inl (hmem y hy)⟩
      rw [set_rgt hr]
      rw [hset] at hx
      exact hx
    · have hmd : madeC c k nd = ⟨c.ch, c.ep + 1, c.ns.filter (fun x => decide (x ≠ nd)), c.fr && decide (c.last ≠ nd), c.jn⟩ := by unfold madeC; rw [if_pos k1, if_neg hj]
      have hxns : x ∈ c.ns := by
        rw [hset] at hx
        split at hx
        · exact List.mem_of_mem_take hx
        · exact hx
      have hxf : x ∈ c.ns.filter (fun x => decide (x ≠ nd)) := List.mem_filter.2 ⟨hxns, by simpa using hxn⟩
      have hmem : ∀ y ∈ (Cf.mk c.ch (c.ep + 1) (c.ns.filter (fun x => decide (x ≠ nd))) (c.fr && decide (c.last ≠ nd)) c.jn).mem, y ∈ c.mem := by
        intro y hy
        unfold Cf.mem at hy ⊢
        simp only at hy
        split at hy
        · rename_i hj0
          rw [if_pos hj0]
          exact (List.mem_filter.1 hy).1
        · rename_i hj0
          rw [if_neg hj0]
          rcases List.mem_append.1 hy with hy | hy
          · exact List.mem_append_left _ (List.mem_filter.1 hy).1
          · exact List.mem_append_right _ hy
      have hlen : (c.ns.filter (fun x => decide (x ≠ nd))).length ≤ c.ns.length := List.length_filter_le _ _
      have hr : Rgt ⟨c.ch, c.ep + 1, c.ns.filter (fun x => decide (x ≠ nd)), c.fr && decide (c.last ≠ nd), c.jn⟩ := by
        refine ⟨r1, r2, by show 1 ≤ c.ep + 1; omega, one_len hxf, Nat.le_trans hlen r5, fun hf => ?_, ?_⟩
        · simp only [Bool.and_eq_true, decide_eq_true_eq] at hf
          have hfr := hf.1
          refine ⟨two_len hxf (List.mem_filter.2 ⟨hlast, by simpa using hf.2⟩) ?_, (r6 hfr).2⟩
          rintro rfl
          rw [hset, if_pos hfr] at hx
          have := hun.2
          rw [hsp] at this
          exact (List.nodup_append.1 this).2.2 _ hx _ (by simp) rfl
        · unfold Cf.mem
          simp only
          split
          · exact unq_filter hun _
          · rename_i hj0
            unfold Cf.mem at r7
            rw [if_neg hj0] at r7
            have hj1 := r7.1 c.jn (by simp)
            exact unq_app (unq_filter hun _) hj1.1 hj1.2 (fun hy => (List.nodup_append.1 r7.2).2.2 _ (List.mem_filter.1 hy).1 _ (by simp) rfl)
      rw [hmd]
      refine ⟨⟨hr, rfl, rfl, fun y hy => .inl (hmem y hy), ⟨x, hx, ?_⟩, ⟨_, [], (List.append_nil _).symm, by simp, fun _ h => by cases h⟩⟩, fun y hy => .inl (hmem y hy)⟩
      rw [set_rgt hr]
      by_cases hf : (c.fr && decide (c.last ≠ nd)) = true
      · rw [if_pos hf]
        simp only [Bool.and_eq_true, decide_eq_true_eq] at hf
        rw [hset, if_pos hf.1] at hx
        have hfl : c.ns.filter (fun x => decide (x ≠ nd)) = (c.ns.take (c.ns.length - 1)).filter (fun x => decide (x ≠ nd)) ++ [c.last] := by
          have := congrArg (List.filter (fun x => decide (x ≠ nd))) hsp
          rw [this, List.filter_append]
          simp [hf.2]
        show x ∈ (c.ns.filter _).take _
        have hl : (Cf.mk c.ch (c.ep + 1) (c.ns.filter (fun x => decide (x ≠ nd))) (c.fr && decide (c.last ≠ nd)) c.jn).ns.length - 1 = ((c.ns.take (c.ns.length - 1)).filter (fun x => decide (x ≠ nd))).length := by
          show (c.ns.filter _).length - 1 = _
          rw [hfl, List.length_append]; simp
        rw [hl, hfl, List.take_append_of_le_length (Nat.le_refl _), List.take_length]
        exact List.mem_filter.2 ⟨hx, by simpa using hxn⟩
      · rw [if_neg hf]
        exact hxf
  rw [if_neg k1] at h
  by_cases k2 : k = 2
  · rw [if_pos k2] at h
    by_cases hus : usedB l nd = true
    · rw [if_pos hus] at h; cases h
    rw [if_neg hus] at h
    by_cases hj : c.jn ≠ 0 ∨ c.fr = true
    · rw [if_pos hj] at h; cases h
    rw [if_neg hj] at h
    by_cases h5 : 5 ≤ c.ns.length
    · rw [if_pos h5] at h; cases h
    have hf : c.fr = false := by cases hh : c.fr with | false => rfl | true => exact absurd (.inr hh) hj
    have hj0 : c.jn = 0 := Classical.byContradiction fun hh => hj (.inl hh)
    have hus' : usedB l nd = false := by cases hh : usedB l nd with | false => rfl | true => exact absurd hh hus
    have hnn : nd ∉ c.ns := fun hh => hu hus' (ns_mem hh)
    have hmd : madeC c k nd = ⟨c.ch, c.ep + 1, c.ns, c.fr, nd⟩ := by unfold madeC; rw [if_neg k1, if_pos k2]
    have hme : (Cf.mk c.ch (c.ep + 1) c.ns c.fr nd).mem = c.ns ++ [nd] := if_neg (by show ¬ nd = 0; omega)
    have hr : Rgt ⟨c.ch, c.ep + 1, c.ns, c.fr, nd⟩ := ⟨r1, r2, by show 1 ≤ c.ep + 1; omega, r4, r5, (fun hh => absurd (hf.symm.trans hh) (by decide)), by rw [hme]; exact unq_app hun h1 h2 hnn⟩
    rw [hmd]
    refine ⟨⟨hr, rfl, rfl, fun y hy => ?_, ?_, ⟨fun _ => true, [], (filter_all _).symm, by simp, fun _ h => by cases h⟩⟩, fun y hy => ?_⟩
    · rw [hme] at hy
      rcases List.mem_append.1 hy with hy | hy
      · exact .inl (ns_mem hy)
      · simp only [List.mem_singleton] at hy; exact .inr ⟨hy, h1⟩
    · refine ⟨c.last, ?_, ?_⟩
      · rw [hset, hf]; exact hlast
      · rw [set_rgt hr]; simp only [hf]; exact hlast
    · rw [hme] at hy
      rcases List.mem_append.1 hy with hy | hy
      · exact .inl (ns_mem hy)
      · simp only [List.mem_singleton] at hy; subst hy; exact .inr hus'
  rw [if_neg k2] at h
  by_cases k3 : k = 3
  · rw [if_pos k3] at h
    by_cases hj : c.jn ≠ nd
    · rw [if_pos hj] at h; cases h
    rw [if_neg hj] at h
    have hj' : c.jn = nd := Classical.byContradiction hj
    by_cases h5 : 5 ≤ c.ns.length
    · rw [if_pos h5] at h; cases h
    have hf : c.fr = false := by
      cases hh : c.fr with
      | false => rfl
      | true => have := (r6 hh).2; omega
    have hcm : c.mem = c.ns ++ [nd] := by unfold Cf.mem; rw [if_neg (by omega), hj']
    have hmd : madeC c k nd = ⟨c.ch, c.ep + 1, c.ns ++ [nd], true, 0⟩ := by unfold madeC; rw [if_neg k1, if_neg k2, if_pos k3]
    have hme : (Cf.mk c.ch (c.ep + 1) (c.ns ++ [nd]) true 0).mem = c.ns ++ [nd] := if_pos rfl
    have hr : Rgt ⟨c.ch, c.ep + 1, c.ns ++ [nd], true, 0⟩ := ⟨r1, r2, by show 1 ≤ c.ep + 1; omega, by simp, by simp; omega, fun _ => ⟨by simp; omega, rfl⟩, by rw [hme, ← hcm]; exact r7⟩
    rw [hmd]
    refine ⟨⟨hr, rfl, rfl, fun y hy => .inl (by rw [hme] at hy; rw [hcm]; exact hy), ?_, ⟨fun _ => true, [nd], by rw [List.filter_eq_self.2 (fun _ _ => rfl)], by simp, fun y hy => ?_⟩⟩, fun y hy => .inl (by rw [hme] at hy; rw [hcm]; exact hy)⟩
    · refine ⟨c.last, ?_, ?_⟩
      · rw [hset, hf]; exact hlast
      · rw [set_rgt hr]
        show c.last ∈ (if true = true then (c.ns ++ [nd]).take ((c.ns ++ [nd]).length - 1) else _)
        rw [if_pos rfl, List.length_append]
        simp only [List.length_cons, List.length_nil, Nat.zero_add, Nat.add_sub_cancel]
        rw [List.take_append_of_le_length (Nat.le_refl _), List.take_length]
        exact hlast
    · simp only [List.mem_singleton] at hy
      subst hy
      rw [hcm] at r7
      exact fun hh => (List.nodup_append.1 r7.2).2.2 _ hh _ (by simp) rfl
  rw [if_neg k3] at h
  by_cases hx : c.fr = false ∨ c.last ≠ nd
  · rw [if_pos hx] at h; cases h
  have hf : c.fr = true := by cases hh : c.fr with | true => rfl | false => exact absurd (.inl hh) hx
  have hmd : madeC c k nd = ⟨c.ch, c.ep + 1, c.ns, false, c.jn⟩ := by unfold madeC; rw [if_neg k1, if_neg k2, if_neg k3]
  have hme : (Cf.mk c.ch (c.ep + 1) c.ns false c.jn).mem = c.mem := rfl
  have hr : Rgt ⟨c.ch, c.ep + 1, c.ns, false, c.jn⟩ := ⟨r1, r2, by show 1 ≤ c.ep + 1; omega, r4, r5, (fun hh => by cases hh), by rw [hme]; exact r7⟩
  rw [hmd]
  have h2l := (r6 hf).1
  refine ⟨⟨hr, rfl, rfl, fun y hy => .inl hy, ?_, ⟨fun _ => true, [], (filter_all _).symm, by simp, fun _ h => by cases h⟩⟩, fun y hy => .inl hy⟩
  refine ⟨c.ns.getD 0 0, ?_, ?_⟩
  · rw [hset, if_pos hf]
    have : (c.ns.take (c.ns.length - 1)).getD 0 0 = c.ns.getD 0 0 := by
      rw [List.getD_eq_getElem?_getD, List.getD_eq_getElem?_getD, List.getElem?_take, if_pos (by omega)]
    rw [← this, getD_at (by simp; omega)]
    exact List.getElem_mem _
  · rw [set_rgt hr]
    show c.ns.getD 0 0 ∈ (if false = true then _ else c.ns)
    rw [if_neg (by decide), getD_at (by omega)]
    exact List.getElem_mem _
theorem nthC_set {l : List Cf} {i j : Nat} {d : Cf} (h : i < l.length) : nthC (l.set i d) j = if j = i then d else nthC l j := by
  unfold nthC
  rw [List.getD_eq_getElem?_getD, List.getD_eq_getElem?_getD, List.getElem?_set]
  by_cases e : i = j
  · subst e; simp [h]
  · rw [if_neg e, if_neg (fun x => e x.symm)]
theorem usedB_iff {l : List Cf} {x : Int} : usedB l x = true ↔ ∃ i, i < l.length ∧ x ∈ (nthC l i).mem := by
  constructor
  · intro h
    unfold usedB at h
    obtain ⟨c, hc, hx⟩ := List.any_eq_true.1 h
    obtain ⟨i, hi, rfl⟩ := List.getElem_of_mem hc
    exact ⟨i, hi, by rw [nthC_at hi]; simpa using hx⟩
  · rintro ⟨i, hi, hx⟩
    exact usedB_hit hi hx
theorem usedT_iff {l : List Cf} {k : Nat} {x : Int} (hk : k ≤ l.length) : usedB (l.take k) x = true ↔ ∃ i, i < k ∧ x ∈ (nthC l i).mem := by
  rw [usedB_iff]
  constructor
  · rintro ⟨i, hi, hx⟩
    rw [List.length_take] at hi
    refine ⟨i, by omega, ?_⟩
    have : nthC (l.take k) i = nthC l i := by
      unfold nthC
      rw [List.getD_eq_getElem?_getD, List.getD_eq_getElem?_getD, List.getElem?_take, if_pos (by omega)]
    rwa [this] at hx
  · rintro ⟨i, hi, hx⟩
    refine ⟨i, by rw [List.length_take]; omega, ?_⟩
    have : nthC (l.take k) i = nthC l i := by
      unfold nthC
      rw [List.getD_eq_getElem?_getD, List.getD_eq_getElem?_getD, List.getElem?_take, if_pos (by omega)]
    rwa [this]
theorem all_apart {l : List Cf} (h : AllC l) {i j : Nat} (hij : i < j) (hj : j < l.length) {x : Int} (hx : x ∈ (nthC l i).mem) : x ∉ (nthC l j).mem := by
  intro hy
  have := (h.2.2 j hj).2.2 x hy
  rw [(usedT_iff (by omega)).2 ⟨i, hij, hx⟩] at this
  cases this
theorem apart_all {l : List Cf} (h1 : 1 ≤ l.length) (h4 : l.length ≤ 4) (h : ∀ i, i < l.length → Rgt (nthC l i) ∧ (nthC l i).ch = i) (ha : ∀ i j x, i < j → j < l.length → x ∈ (nthC l i).mem → x ∉ (nthC l j).mem) : AllC l := by
  refine ⟨h1, h4, fun i hi => ⟨(h i hi).1, (h i hi).2, fun x hx => ?_⟩⟩
  cases hu : usedB (l.take i) x with
  | false => rfl
  | true =>
    obtain ⟨j, hj, hxj⟩ := (usedT_iff (by omega)).1 hu
    exact absurd hx (ha j i x hj hi hxj)
/-- Configurations that may be, with a command that is possible, may be. -/
theorem do_all {l : List Cf} {k ch nd : Int} (hA : AllC l) (hk : 1 ≤ k) (hk4 : k ≤ 4) (h0 : 0 ≤ ch) (hch : ch < l.length) (h1 : 1 ≤ nd) (h2 : nd ≤ 24) (h : canK l (nthC l ch.toNat) k nd = 0) (he : (nthC l ch.toNat).ep ≠ topE) (he2 : (nthC l ch.toNat).ep ≤ topE) :
    AllC (l.set ch.toNat (madeC (nthC l ch.toNat) k nd)) ∧ Goes (nthC l ch.toNat) (madeC (nthC l ch.toNat) k nd) nd := by
  obtain ⟨i, rfl⟩ := Int.eq_ofNat_of_zero_le h0
  rw [Int.toNat_natCast] at *
  have hi : i < l.length := by omega
  obtain ⟨hr, hc, _⟩ := hA.2.2 i hi
  have hu : usedB l nd = false → nd ∉ (nthC l i).mem := fun hu hm => by rw [usedB_hit hi hm] at hu; cases hu
  obtain ⟨hg, hm⟩ := made_goes hr hk hk4 h1 h2 hu h he he2
  refine ⟨apart_all (by simpa using hA.1) (by simpa using hA.2.1) (fun j hj => ?_) (fun a b x hab hb hx hy => ?_), hg⟩
  · rw [List.length_set] at hj
    rw [nthC_set hi]
    split
    · rename_i e
      subst e
      exact ⟨hg.rgt, by rw [hg.ch, hc]⟩
    · exact ⟨(hA.2.2 j hj).1, (hA.2.2 j hj).2.1⟩
  · rw [List.length_set] at hb
    rw [nthC_set hi] at hx hy
    by_cases ea : a = i
    · subst ea
      rw [if_pos rfl] at hx
      rw [if_neg (by omega)] at hy
      rcases hm x hx with hx | hx
      · exact all_apart hA hab hb hx hy
      · rw [usedB_hit hb hy] at hx; cases hx
    · rw [if_neg ea] at hx
      by_cases eb : b = i
      · subst eb
        rw [if_pos rfl] at hy
        rcases hm x hy with hy | hy
        · exact all_apart hA hab hb hx hy
        · rw [usedB_hit (show a < l.length by omega) hx] at hy; cases hy
      · rw [if_neg eb] at hy
        exact all_apart hA hab hb hx hy
end Go.Proofs.Ytiifkcjngajegaa
namespace Go.Proofs.Ytiifkcjngajegaa
open Go.RowKit
set_option linter.unusedVariables false

/-- A slice that reads as these numbers, in blocks of F. -/
def NSl (w : World) (F : Nat → Prop) (v : Value) (l : List Int) : Prop :=
  ∃ a cap, v = .slice a l.length cap ∧ l.length ≤ cap ∧ cap ≤ maxLen ∧ (a = none → cap = 0) ∧
    (0 < l.length → ∃ b o, a = some ⟨b, o, none⟩ ∧ F b ∧ b < w.heap.size ∧ ∀ j, j < l.length → w.cell? ⟨b, o + j, none⟩ = some (.int .i64 (l.getD j 0)))
theorem NSl.nil (w : World) (F : Nat → Prop) : NSl w F (.slice none 0 0) [] := ⟨none, 0, rfl, Nat.le_refl _, Nat.zero_le _, fun _ => rfl, fun h => absurd h (by simp)⟩
theorem NSl.kept {S F : Nat → Prop} {w w' : World} {v : Value} {l : List Int} (h : NSl w F v l) (hk : Kept S w w') (hs : ∀ k, k < w.heap.size → F k → ¬ S k) : NSl w' F v l := by
  obtain ⟨a, cap, h1, h2, h3, h4, h5⟩ := h
  refine ⟨a, cap, h1, h2, h3, h4, fun hl => ?_⟩
  obtain ⟨b, o, ha, hF, hb, hc⟩ := h5 hl
  exact ⟨b, o, ha, hF, Nat.lt_of_lt_of_le hb hk.size, fun j hj => hk.cell (p := ⟨b, o + j, none⟩) (hs b hb hF) (hc j hj)⟩
theorem NSl.mono {F G : Nat → Prop} {w : World} {v : Value} {l : List Int} (h : NSl w F v l) (hG : ∀ k, k < w.heap.size → F k → G k) : NSl w G v l := by
  obtain ⟨a, cap, h1, h2, h3, h4, h5⟩ := h
  refine ⟨a, cap, h1, h2, h3, h4, fun hl => ?_⟩
  obtain ⟨b, o, ha, hF, hb, hc⟩ := h5 hl
  exact ⟨b, o, ha, hG b hb hF, hb, hc⟩
theorem NSl.at_ {F : Nat → Prop} {w : World} {a : Option Addr} {n cap : Nat} {l : List Int} (h : NSl w F (.slice a n cap) l) {j : Nat} (hj : j < l.length) :
    ∃ b o, a = some ⟨b, o, none⟩ ∧ F b ∧ b < w.heap.size ∧ w.cell? ⟨b, o + j, none⟩ = some (.int .i64 (l.getD j 0)) := by
  obtain ⟨a', cap', h1, h2, h3, h4, h5⟩ := h
  injection h1 with h1 _ _
  subst h1
  obtain ⟨b, o, ha, hF, hb, hc⟩ := h5 (by omega)
  exact ⟨b, o, ha, hF, hb, hc j hj⟩
theorem NSl.len {F : Nat → Prop} {w : World} {a : Option Addr} {n cap : Nat} {l : List Int} (h : NSl w F (.slice a n cap) l) : n = l.length ∧ n ≤ cap ∧ cap ≤ maxLen := by
  obtain ⟨a', cap', h1, h2, h3, h4, h5⟩ := h
  injection h1 with _ h1 h6
  subst h1 h6
  exact ⟨rfl, h2, h3⟩
theorem nsl_take {F : Nat → Prop} {w : World} {a : Option Addr} {n cap : Nat} {l : List Int} (h : NSl w F (.slice a n cap) l) {k : Nat} (hk : k ≤ l.length) : NSl w F (.slice a k cap) (l.take k) := by
  obtain ⟨a', cap', h1, h2, h3, h4, h5⟩ := h
  injection h1 with h1 h6 h7
  subst h1 h6 h7
  have e : (l.take k).length = k := by rw [List.length_take, Nat.min_eq_left hk]
  refine ⟨a, cap, by rw [e], by omega, h3, h4, fun hl => ?_⟩
  obtain ⟨b, o, ha, hF, hb, hc⟩ := h5 (by omega)
  refine ⟨b, o, ha, hF, hb, fun j hj => ?_⟩
  rw [hc j (by omega)]
  have hjk : j < k := by omega
  simp [hjk]
theorem nsl_clip {F : Nat → Prop} {w : World} {a : Option Addr} {n cap : Nat} {l : List Int} (h : NSl w F (.slice a n cap) l) : NSl w F (.slice a n n) l := by
  obtain ⟨a', cap', h1, h2, h3, h4, h5⟩ := h
  injection h1 with h1 h6 h7
  subst h1 h6 h7
  exact ⟨a, l.length, rfl, Nat.le_refl _, by omega, fun e => by have := h4 e; omega, h5⟩
/-- A configuration as a value. -/
def CfV (w : World) (F : Nat → Prop) (v : Value) (c : Cf) : Prop :=
  ∃ u, v = .agg #[.int .i64 c.ch, .int .u64 c.ep, u, .bool c.fr, .int .i64 c.jn] ∧ NSl w F u c.ns ∧ 0 ≤ c.ep ∧ c.ep ≤ topE ∧ c.ns.length ≤ 1000
/-- One that lies in five cells. -/
def CfAt (w : World) (F : Nat → Prop) (b o : Nat) (c : Cf) : Prop :=
  ∃ u, w.cell? ⟨b, o, none⟩ = some (.int .i64 c.ch) ∧ w.cell? ⟨b, o + 1, none⟩ = some (.int .u64 c.ep) ∧ w.cell? ⟨b, o + 2, none⟩ = some u ∧ w.cell? ⟨b, o + 3, none⟩ = some (.bool c.fr) ∧
    w.cell? ⟨b, o + 4, none⟩ = some (.int .i64 c.jn) ∧ NSl w F u c.ns ∧ 0 ≤ c.ep ∧ c.ep ≤ topE ∧ c.ns.length ≤ 1000
theorem CfV.kept {S F : Nat → Prop} {w w' : World} {v : Value} {c : Cf} (h : CfV w F v c) (hk : Kept S w w') (hs : ∀ k, k < w.heap.size → F k → ¬ S k) : CfV w' F v c := by
  obtain ⟨u, h1, h2, h3⟩ := h
  exact ⟨u, h1, h2.kept hk hs, h3⟩
theorem CfV.mono {F G : Nat → Prop} {w : World} {v : Value} {c : Cf} (h : CfV w F v c) (hG : ∀ k, k < w.heap.size → F k → G k) : CfV w G v c := by
  obtain ⟨u, h1, h2, h3⟩ := h
  exact ⟨u, h1, h2.mono hG, h3⟩
theorem CfAt.kept {S F : Nat → Prop} {w w' : World} {b o : Nat} {c : Cf} (h : CfAt w F b o c) (hk : Kept S w w') (hb : ¬ S b) (hs : ∀ k, k < w.heap.size → F k → ¬ S k) : CfAt w' F b o c := by
  obtain ⟨u, h1, h2, h3, h4, h5, h6, h7⟩ := h
  exact ⟨u, hk.cell hb h1, hk.cell hb h2, hk.cell hb h3, hk.cell hb h4, hk.cell hb h5, h6.kept hk hs, h7⟩
theorem CfAt.mono {F G : Nat → Prop} {w : World} {b o : Nat} {c : Cf} (h : CfAt w F b o c) (hG : ∀ k, k < w.heap.size → F k → G k) : CfAt w G b o c := by
  obtain ⟨u, h1, h2, h3, h4, h5, h6, h7⟩ := h
  exact ⟨u, h1, h2, h3, h4, h5, h6.mono hG, h7⟩
/-- A slice of configurations. -/
def CfsAt (w : World) (F : Nat → Prop) (v : Value) (l : List Cf) : Prop :=
  ∃ a cap, v = .slice a l.length cap ∧ l.length ≤ cap ∧ cap ≤ maxLen ∧ (a = none → cap = 0) ∧
    (0 < l.length → ∃ b o, a = some ⟨b, o, none⟩ ∧ F b ∧ b < w.heap.size ∧ ∀ j, j < l.length → CfAt w F b (o + j * 5) (nthC l j))
theorem CfsAt.nil (w : World) (F : Nat → Prop) : CfsAt w F (.slice none 0 0) [] := ⟨none, 0, rfl, Nat.le_refl _, Nat.zero_le _, fun _ => rfl, fun h => absurd h (by simp)⟩
theorem CfsAt.kept {S F : Nat → Prop} {w w' : World} {v : Value} {l : List Cf} (h : CfsAt w F v l) (hk : Kept S w w') (hs : ∀ k, k < w.heap.size → F k → ¬ S k) : CfsAt w' F v l := by
  obtain ⟨a, cap, h1, h2, h3, h4, h5⟩ := h
  refine ⟨a, cap, h1, h2, h3, h4, fun hl => ?_⟩
  obtain ⟨b, o, ha, hF, hb, hc⟩ := h5 hl
  exact ⟨b, o, ha, hF, Nat.lt_of_lt_of_le hb hk.size, fun j hj => (hc j hj).kept hk (hs b hb hF) hs⟩
theorem CfsAt.mono {F G : Nat → Prop} {w : World} {v : Value} {l : List Cf} (h : CfsAt w F v l) (hG : ∀ k, k < w.heap.size → F k → G k) : CfsAt w G v l := by
  obtain ⟨a, cap, h1, h2, h3, h4, h5⟩ := h
  refine ⟨a, cap, h1, h2, h3, h4, fun hl => ?_⟩
  obtain ⟨b, o, ha, hF, hb, hc⟩ := h5 hl
  exact ⟨b, o, ha, hG b hb hF, hb, fun j hj => (hc j hj).mono hG⟩
theorem CfsAt.at_ {F : Nat → Prop} {w : World} {a : Option Addr} {n cap : Nat} {l : List Cf} (h : CfsAt w F (.slice a n cap) l) {j : Nat} (hj : j < l.length) :
    ∃ b o, a = some ⟨b, o, none⟩ ∧ F b ∧ b < w.heap.size ∧ CfAt w F b (o + j * 5) (nthC l j) := by
  obtain ⟨a', cap', h1, h2, h3, h4, h5⟩ := h
  injection h1 with h1 _ _
  subst h1
  obtain ⟨b, o, ha, hF, hb, hc⟩ := h5 (by omega)
  exact ⟨b, o, ha, hF, hb, hc j hj⟩
theorem CfsAt.len {F : Nat → Prop} {w : World} {a : Option Addr} {n cap : Nat} {l : List Cf} (h : CfsAt w F (.slice a n cap) l) : n = l.length ∧ n ≤ cap ∧ cap ≤ maxLen := by
  obtain ⟨a', cap', h1, h2, h3, h4, h5⟩ := h
  injection h1 with _ h1 h6
  subst h1 h6
  exact ⟨rfl, h2, h3⟩
theorem nthC_take {l : List Cf} {k j : Nat} (h : j < k) : nthC (l.take k) j = nthC l j := by
  unfold nthC
  rw [List.getD_eq_getElem?_getD, List.getD_eq_getElem?_getD, List.getElem?_take, if_pos h]
theorem cfs_take {F : Nat → Prop} {w : World} {a : Option Addr} {n cap : Nat} {l : List Cf} (h : CfsAt w F (.slice a n cap) l) {k : Nat} (hk : k ≤ l.length) : CfsAt w F (.slice a k cap) (l.take k) := by
  obtain ⟨a', cap', h1, h2, h3, h4, h5⟩ := h
  injection h1 with h1 h6 h7
  subst h1 h6 h7
  have e : (l.take k).length = k := by rw [List.length_take, Nat.min_eq_left hk]
  refine ⟨a, cap, by rw [e], by omega, h3, h4, fun hl => ?_⟩
  obtain ⟨b, o, ha, hF, hb, hc⟩ := h5 (by omega)
  refine ⟨b, o, ha, hF, hb, fun j hj => ?_⟩
  rw [nthC_take (by omega)]
  exact hc j (by omega)
/-- A configuration that was laid into a block of its own. -/
theorem CfV.laid {F : Nat → Prop} {w : World} {u : Value} {c : Cf} {b : Nat} {t : TypeId} (hb : w.heap[b]? = some (.cells #[.int .i64 c.ch, .int .u64 c.ep, u, .bool c.fr, .int .i64 c.jn] t (0, 0))) (hu : NSl w F u c.ns) (h0 : 0 ≤ c.ep) (h1 : c.ep ≤ topE) (h2 : c.ns.length ≤ 1000) : CfAt w F b 0 c :=
  ⟨u, cell_of_row _ _ 0 _ _ _ hb, cell_of_row _ _ 1 _ _ _ hb, cell_of_row _ _ 2 _ _ _ hb, cell_of_row _ _ 3 _ _ _ hb, cell_of_row _ _ 4 _ _ _ hb, hu, h0, h1, h2⟩
end Go.Proofs.Ytiifkcjngajegaa
namespace Go.Proofs.Ytiifkcjngajegaa
set_option linter.unusedVariables false

/-- Is a number in both? -/
def meetB (a b : List Int) : Bool := a.any fun x => decide (x ∈ b)
theorem meet_of {a b : List Int} {x : Int} (h1 : x ∈ a) (h2 : x ∈ b) : meetB a b = true := List.any_eq_true.2 ⟨x, h1, by simpa using h2⟩
theorem meet_no {a b : List Int} (h : ∀ k, k < a.length → a.getD k 0 ∉ b) : meetB a b = false := by
  unfold meetB
  rw [List.any_eq_false]
  intro x hx
  obtain ⟨k, hk, rfl⟩ := List.getElem_of_mem hx
  have := h k hk
  rw [getD_at hk] at this
  simpa using this
/-- Where one stands in the new list behind k of the old one. -/
def posP (p : Int → Bool) (a : List Int) (k : Nat) : Nat := ((a.take k).filter p).length
theorem posP_succ (p : Int → Bool) {a : List Int} {k : Nat} (h : k < a.length) : posP p a (k + 1) = posP p a k + if p (a.getD k 0) then 1 else 0 := by
  unfold posP
  rw [take_one h, List.filter_append, List.length_append]
  generalize a.getD k 0 = x
  cases hp : p x <;> simp [hp]
theorem posP_le (p : Int → Bool) (a : List Int) (k : Nat) : posP p a k ≤ (a.filter p).length := by
  unfold posP
  exact (List.Sublist.filter p (List.take_sublist k a)).length_le
theorem posP_at (p : Int → Bool) {a ex : List Int} {k : Nat} (h : k < a.length) (hp : p (a.getD k 0) = true) : posP p a k < (a.filter p ++ ex).length ∧ (a.filter p ++ ex).getD (posP p a k) 0 = a.getD k 0 := by
  have hs : a.filter p = (a.take k).filter p ++ (a.getD k 0 :: (a.drop (k + 1)).filter p) := by
    have e : a = a.take k ++ (a.getD k 0 :: a.drop (k + 1)) := by
      rw [getD_at h, ← List.drop_eq_getElem_cons h, List.take_append_drop]
    have := congrArg (List.filter p) e
    rw [List.filter_append, List.filter_cons, if_pos hp] at this
    exact this
  have hl : posP p a k = ((a.take k).filter p).length := rfl
  rw [hs, hl]
  refine ⟨by simp, ?_⟩
  rw [List.getD_eq_getElem?_getD, List.append_assoc, List.getElem?_append_right (Nat.le_refl _)]
  simp
theorem ord_mem {p : Int → Bool} {a ex : List Int} (hex : ∀ x ∈ ex, x ∉ a) {x : Int} (hx : x ∈ a) : decide (x ∈ a.filter p ++ ex) = p x := by
  cases hp : p x with
  | true => exact decide_eq_true (List.mem_append_left _ (List.mem_filter.2 ⟨hx, hp⟩))
  | false =>
    refine decide_eq_false fun h => ?_
    rcases List.mem_append.1 h with h | h
    · have := (List.mem_filter.1 h).2
      rw [hp] at this
      cases this
    · exact hex x h hx
theorem ord_end {p : Int → Bool} {a ex : List Int} (he : ex.length ≤ 1) : (a.filter p ++ ex).length ≤ posP p a a.length + 1 := by
  unfold posP
  rw [List.take_length, List.length_append]
  omega
/-- Whether two configurations, two lists of them, are the same. -/
def sameC (a b : Cf) : Bool := decide (a = b)
theorem nthC_ext {a b : List Cf} (hl : a.length = b.length) (h : ∀ i, i < a.length → nthC a i = nthC b i) : a = b := by
  refine List.ext_getElem hl fun i h1 h2 => ?_
  have := h i h1
  rw [nthC_at h1, nthC_at h2] at this
  exact this
/-- The configurations with which everything begins. -/
def beg1 (per chain : Nat) : Cf := ⟨(chain : Nat), 1, (List.range per).map fun (k : Nat) => ((chain * per + k + 1 : Nat) : Int), false, 0⟩
def begL (chains per : Nat) : List Cf := (List.range chains).map (beg1 per)
theorem begL_len (chains per : Nat) : (begL chains per).length = chains := by simp [begL]
theorem begL_nth {chains per i : Nat} (h : i < chains) : nthC (begL chains per) i = beg1 per i := by
  rw [nthC_at (by rw [begL_len]; exact h)]
  simp [begL]
theorem beg1_mem {per chain : Nat} {x : Int} : x ∈ (beg1 per chain).mem ↔ ∃ k, k < per ∧ x = ((chain * per + k + 1 : Nat) : Int) := by
  have e : (beg1 per chain).mem = (beg1 per chain).ns := if_pos rfl
  rw [e]
  unfold beg1
  simp only [List.mem_map, List.mem_range]
  constructor
  · rintro ⟨k, hk, rfl⟩; exact ⟨k, hk, rfl⟩
  · rintro ⟨k, hk, rfl⟩; exact ⟨k, hk, rfl⟩
theorem begL_all {chains per : Nat} (h1 : 1 ≤ chains) (h4 : chains ≤ 4) (p1 : 1 ≤ per) (p5 : per ≤ 5) : AllC (begL chains per) := by
  refine apart_all (by rw [begL_len]; exact h1) (by rw [begL_len]; exact h4) (fun i hi => ?_) (fun i j x hij hj hx hy => ?_)
  · rw [begL_len] at hi
    rw [begL_nth hi]
    have hmul : i * per ≤ 3 * 5 := Nat.mul_le_mul (by omega) p5
    refine ⟨⟨by show (0 : Int) ≤ (i : Int); omega, by show (i : Int) ≤ 3; omega, by show (1 : Int) ≤ 1; omega, by simp [beg1]; omega, by simp [beg1]; omega, (fun hf => absurd hf (by simp [beg1])), ?_, ?_⟩, rfl⟩
    · intro x hx
      obtain ⟨k, hk, rfl⟩ := beg1_mem.1 hx
      omega
    · have e : (beg1 per i).mem = (beg1 per i).ns := if_pos rfl
      rw [e]
      unfold beg1
      refine List.Pairwise.map _ (fun a b hab => ?_) List.nodup_range
      show ((i * per + a + 1 : Nat) : Int) ≠ ((i * per + b + 1 : Nat) : Int)
      intro h
      exact hab (by omega)
  · rw [begL_len] at hj
    rw [begL_nth (by omega)] at hx
    rw [begL_nth hj] at hy
    obtain ⟨k, hk, rfl⟩ := beg1_mem.1 hx
    obtain ⟨m, hm, he⟩ := beg1_mem.1 hy
    have h1 : (i + 1) * per ≤ j * per := Nat.mul_le_mul_right _ hij
    rw [Nat.add_mul] at h1
    omega
end Go.Proofs.Ytiifkcjngajegaa
namespace Go.Proofs.Ytiifkcjngajegaa
open Go.RowKit
set_option linter.unusedVariables false

theorem len_le {l : List Int} {F : Nat → Prop} {w : World} {a : Option Addr} {n cap : Nat} (h : NSl w F (.slice a n cap) l) : l.length ≤ 9223372036854775807 := by
  have := h.len
  unfold maxLen at this
  omega
/-- The first place of a number, or -1. -/
def idxN (l : List Int) (x : Int) (r : Int) : Prop := (r = -1 ∧ x ∉ l) ∨ (∃ k : Nat, r = k ∧ k < l.length ∧ x ∈ l)
theorem Index_any (v : Value) (l : List Int) (x : Int) (F : Nat → Prop) (w : World) (h : NSl w F v l) :
    Calls Try.prog 91 #[v, .int .i64 x] w fun e w' => (∃ r, e = .returned (.int .i64 r) ∧ idxN l x r) ∧ w = w' := by
  obtain ⟨a, cap, rfl, _⟩ := id h
  have hl := len_le h
  have H := Lib.hid h
  clear h
  go_enter Try.func91, Try.ntmps91
  go_wp2
  go_loop [8] (fun i => ∃ k : Nat, i = .int .i64 k ∧ k ≤ l.length ∧ x ∉ l.take k) (fun i => l.length - (intOf i).toNat)
  case atStart => exact ⟨0, rfl, Nat.zero_le _, by simp⟩
  case round =>
    obtain ⟨k, rfl, hk, hno⟩ := hrel
    have HN := Lib.hid hno
    clear hno
    by_cases hlt : k < l.length
    · obtain ⟨b, o, rfl, _, _, hc⟩ := H.out.at_ hlt
      have HT := Lib.hid (take_one hlt)
      have HA : Hid (l.getD k 0 ∈ l) := Lib.hid (by rw [getD_at hlt]; exact List.getElem_mem _)
      obtain ⟨y, hy⟩ : ∃ y, y = l.getD k 0 := ⟨_, rfl⟩
      rw [← hy] at hc HT HA
      have hk1 : (k : Int) < (l.length : Int) := by omega
      clear hy
      by_cases he : x = y
      · subst he
        go_wp2
        go_ret
        exact ⟨⟨_, rfl, .inr ⟨k, rfl, hlt, HA.out⟩⟩, rfl⟩
      · have hb : ((x : Int) == (y : Int)) = false := by simpa using he
        have HE := Lib.hid he
        clear he
        go_wp2
        go_round
        case rel => exact ⟨k + 1, by go_num, by omega, by
          rw [HT.out]
          simp only [List.mem_append, List.mem_singleton, not_or]
          exact ⟨HN.out, HE.out⟩⟩
        case measure => simp [intOf]; omega
    · obtain rfl : k = l.length := by omega
      go_wp2
      go_ret
      exact ⟨⟨_, rfl, .inl ⟨rfl, by have := HN.out; rwa [List.take_length] at this⟩⟩, rfl⟩
theorem Contains_any (v : Value) (l : List Int) (x : Int) (F : Nat → Prop) (w : World) (h : NSl w F v l) :
    Calls Try.prog 86 #[v, .int .i64 x] w fun e w' => e = .returned (.bool (decide (x ∈ l))) ∧ w = w' := by
  have HI := Lib.hid (Index_any v l x F w h)
  obtain ⟨a, cap, rfl, _⟩ := id h
  clear h
  obtain ⟨d, hd⟩ : ∃ d, d = decide (x ∈ l) := ⟨_, rfl⟩
  rw [← hd]
  have HD := Lib.hid hd
  clear hd
  go_enter Try.func86, Try.ntmps86
  go_wp2_with fail
  refine HI.out.mono ?_
  rintro e w1 ⟨⟨r, rfl, ⟨rfl, hx⟩ | ⟨k, rfl, _, hx⟩⟩, rfl⟩
  · have HX := Lib.hid hx
    clear hx
    go_wp2
    go_ret
    exact ⟨(by rw [HD.out, decide_eq_false HX.out] <;> rfl), rfl⟩
  · have HX := Lib.hid hx
    have hk0 : (0 : Int) ≤ (k : Int) := by omega
    clear hx
    go_wp2
    go_ret
    exact ⟨(by rw [HD.out, decide_eq_true HX.out] <;> rfl), rfl⟩
theorem Has4_any (v : Value) (l : List Int) (x : Int) (F : Nat → Prop) (w : World) (h : NSl w F v l) :
    Calls Try.prog 74 #[v, .int .i64 x] w fun e w' => e = .returned (.bool (decide (x ∈ l))) ∧ w = w' := by
  obtain ⟨a, cap, rfl, _⟩ := id h
  have hl := len_le h
  have H := Lib.hid h
  clear h
  obtain ⟨d, hd⟩ : ∃ d, d = decide (x ∈ l) := ⟨_, rfl⟩
  rw [← hd]
  have HD := Lib.hid hd
  clear hd
  go_enter Try.func74, Try.ntmps74
  go_wp2
  go_loop [5] (fun i => ∃ k : Nat, i = .int .i64 k ∧ k ≤ l.length ∧ x ∉ l.take k) (fun i => l.length - (intOf i).toNat)
  case atStart => exact ⟨0, rfl, Nat.zero_le _, by simp⟩
  case round =>
    obtain ⟨k, rfl, hk, hno⟩ := hrel
    have HN := Lib.hid hno
    clear hno
    by_cases hlt : k < l.length
    · obtain ⟨b, o, rfl, _, _, hc⟩ := H.out.at_ hlt
      have HT := Lib.hid (take_one hlt)
      have HA : Hid (l.getD k 0 ∈ l) := Lib.hid (by rw [getD_at hlt]; exact List.getElem_mem _)
      obtain ⟨y, hy⟩ : ∃ y, y = l.getD k 0 := ⟨_, rfl⟩
      rw [← hy] at hc HT HA
      have hk1 : (k : Int) < (l.length : Int) := by omega
      clear hy
      by_cases he : y = x
      · subst he
        go_wp2
        go_ret
        exact ⟨(by rw [HD.out, decide_eq_true HA.out] <;> rfl), rfl⟩
      · have hb : ((y : Int) == (x : Int)) = false := by simpa using he
        have HE := Lib.hid he
        clear he
        go_wp2
        go_round
        case rel => exact ⟨k + 1, by go_num, by omega, by
          rw [HT.out]
          simp only [List.mem_append, List.mem_singleton, not_or]
          exact ⟨HN.out, fun h => HE.out h.symm⟩⟩
        case measure => simp [intOf]; omega
    · obtain rfl : k = l.length := by omega
      go_wp2
      go_ret
      exact ⟨(by rw [HD.out, decide_eq_false (by have := HN.out; rwa [List.take_length] at this)] <;> rfl), rfl⟩
end Go.Proofs.Ytiifkcjngajegaa
namespace Go.Proofs.Ytiifkcjngajegaa
open Go.RowKit
set_option linter.unusedVariables false

theorem info_int : (Try.prog.info? 3).map (fun i => (i.zero, i.size, i.bytes)) = some (some (.int .i64 0), 1, 8) := by kernel_rfl
abbrev ivs (l : List Int) : List Value := l.map (Value.int .i64)
/-- A row of numbers of the call's own, from block B on. -/
def IOwn (B : Nat) (w : World) (v : Value) (l : List Int) : Prop := w.ownsRow B 3 1 v l.length (ivs l)
theorem IOwn.nil (B : Nat) (w : World) : IOwn B w (.slice none 0 0) [] := World.ownsRow_nil _ _ _ _
theorem IOwn.form {B : Nat} {w : World} {v : Value} {l : List Int} (h : IOwn B w v l) : ∃ a c, v = .slice a l.length c := by
  rcases h.2 with ⟨rfl, h0⟩ | ⟨r, cap, cur, rfl, _⟩
  · exact ⟨none, 0, by rw [h0]⟩
  · exact ⟨_, _, rfl⟩
theorem IOwn.low {B C : Nat} {w : World} {v : Value} {l : List Int} (h : IOwn B w v l) (hC : C ≤ B) : IOwn C w v l := by
  refine ⟨h.1, ?_⟩
  rcases h.2 with hn | ⟨g, cap, cur, hv, hb, rest⟩
  · exact .inl hn
  · exact .inr ⟨g, cap, cur, hv, by omega, rest⟩
theorem row_keptI {S : Nat → Prop} {B : Nat} {w w' : World} {v : Value} {l : List Int} (h : IOwn B w v l) (hk : Kept S w w') (hs : ∀ k, v.ownBlock = some k → ¬ S k) : IOwn B w' v l := by
  refine ⟨h.1, ?_⟩
  rcases h.2 with hn | ⟨r, cap, cur, rfl, hb, hr, rest⟩
  · exact .inl hn
  · exact .inr ⟨r, cap, cur, rfl, hb, hk.heap (hs r rfl) hr, rest⟩
theorem IOwn.nsl {B : Nat} {w : World} {v : Value} {l : List Int} {F : Nat → Prop} (h : IOwn B w v l) (hF : ∀ k, v.ownBlock = some k → F k) : NSl w F v l := by
  rcases h.2 with ⟨rfl, h0⟩ | ⟨r, cap, cur, rfl, hb, hr, hc, hm, _⟩
  · obtain rfl : l = [] := List.eq_nil_of_length_eq_zero h0
    exact NSl.nil w F
  · refine ⟨_, cap, rfl, hc, hm, (fun h => by cases h), fun hl => ⟨r, 0, rfl, hF r rfl, heap_lt hr, fun j hj => ?_⟩⟩
    have hx := h.cells (g := r) rfl j (.int .i64 (l.getD j 0)) (by simp [List.getElem?_eq_getElem hj])
    have hadd : (⟨r, 0, none⟩ : Addr).add j = ⟨r, 0 + j, none⟩ := by unfold Addr.add; split <;> simp_all
    rw [← hadd]
    exact hx
theorem IOwn.nslB {B : Nat} {w : World} {v : Value} {l : List Int} (h : IOwn B w v l) : NSl w (fun k => B ≤ k) v l := h.nsl (fun k hk => (World.ownsRow.lt h k hk).1)
theorem ivs_one {l : List Int} : ∀ u ∈ ivs l, u.oneCell' = true := by
  intro u hu
  obtain ⟨x, _, rfl⟩ := List.mem_map.1 hu
  rfl
theorem nsl_cells {w : World} {F : Nat → Prop} {ad : Addr} {n cap : Nat} {l : List Int} (h : NSl w F (.slice (some ad) n cap) l) : ∀ j u, (ivs l)[j]? = some u → w.cell? (ad.add j) = some u := by
  intro j u hu
  have hj : j < l.length := by
    rcases Nat.lt_or_ge j l.length with h | h
    · exact h
    · rw [List.getElem?_eq_none (by simpa using h)] at hu; cases hu
  obtain ⟨b, o, ha, _, _, hcell⟩ := h.at_ hj
  injection ha with ha
  subst ha
  have hadd : (⟨b, o, none⟩ : Addr).add j = ⟨b, o + j, none⟩ := by unfold Addr.add; split <;> simp_all
  rw [hadd, hcell]
  simp [List.getElem?_eq_getElem hj] at hu ⊢
  exact hu
/-- append of a slice to a row of the call's own. -/
theorem run_append_nsl (w : World) (base : Nat) (ty : TypeId) (v : Value) (cs : List Int) (hown : IOwn base w v cs) (F : Nat → Prop) (y : Value) (l : List Int) (hy : NSl w F y l) (hl : cs.length + l.length ≤ 100000) (hbase : base ≤ w.heap.size) :
    ∃ a' c' w', (Builtin.append_ #[98, 98] ty #[v, y]).run Try.prog w = .ok (.slice a' (cs.length + l.length) c') w' ∧ IOwn base w' (.slice a' (cs.length + l.length) c') (cs ++ l) ∧ w.grownBy w' v.ownBlock ∧ ((Value.slice a' (cs.length + l.length) c').ownBlock = v.ownBlock ∨ (Value.slice a' (cs.length + l.length) c').ownBlock = some w.heap.size) := by
  obtain ⟨i0, hi, hz0, hz1, hz2⟩ := info_parts info_int
  have key : ∃ v' w', (Builtin.append_ #[98, 98] ty #[v, y]).run Try.prog w = .ok v' w' ∧ w'.ownsRow base 3 1 v' (cs.length + l.length) (ivs cs ++ ivs l) ∧ w.grownBy w' v.ownBlock ∧ (v'.ownBlock = v.ownBlock ∨ v'.ownBlock = some w.heap.size) := by
    have hy' := hy
    obtain ⟨a, cap, rfl, hc, hm, hn, hr⟩ := hy
    rcases a with _ | ad
    · have h0 := hn rfl
      subst h0
      obtain rfl : l = [] := List.eq_nil_of_length_eq_zero (by omega)
      refine ⟨v, w, run_append_owned_none w base 98 ty 3 i0 1 Try.underlying98 hi v cs.length _ hown, ?_, ⟨rfl, rfl, rfl, Nat.le_refl _, fun _ _ _ => rfl⟩, .inl rfl⟩
      have h : w.ownsRow base 3 1 v cs.length (ivs cs) := hown
      simpa using h
    · obtain ⟨v', w', hrun, h2, h3, _, h5⟩ := run_append_own_at (P := Try.prog) w base 98 ty 3 i0 _ 1 8 Try.underlying98 hi hz0 hz1 hz2 rfl (by decide) v cs.length _ hown ad l.length cap (ivs l) (by simp) (nsl_cells hy') ivs_one (by unfold maxLen; omega) (by omega) hbase
      exact ⟨v', w', hrun, h2, h3, h5⟩
  obtain ⟨v', w', h1, h2, h3, h4⟩ := key
  have h2' : IOwn base w' v' (cs ++ l) := by unfold IOwn ivs; rw [List.map_append, List.length_append]; exact h2
  obtain ⟨a', c', e⟩ := h2'.form
  rw [List.length_append] at e
  subst e
  exact ⟨a', c', w', h1, h2', h3, h4⟩
theorem wp_append_nsl (w : World) {o : Oper} {a : Act} {K : Act → World → Prop} {Q : Exit → Act → World → Prop} (s x : Operand)
    (ho : o.op = .call { callee := .builtin .append, args := #[s, x], argTypes := #[98, 98] })
    (base : Nat) (v : Value) (cs : List Int) (hs : a.eval s = v) (hown : IOwn base w v cs) (F : Nat → Prop) (y : Value) (l : List Int) (hx : a.eval x = y) (hy : NSl w F y l) (hl : cs.length + l.length ≤ 100000) (hbase : base ≤ w.heap.size)
    (h : ∀ a' c' w', IOwn base w' (.slice a' (cs.length + l.length) c') (cs ++ l) → w.grownBy w' v.ownBlock → ((Value.slice a' (cs.length + l.length) c').ownBlock = v.ownBlock ∨ (Value.slice a' (cs.length + l.length) c').ownBlock = some w.heap.size) → K (a.put o.dst (.slice a' (cs.length + l.length) c')) w') : o.wp Try.prog a w K Q := by
  obtain ⟨a', c', w', hrun, h2, h3, h4⟩ := run_append_nsl w base o.type v cs hown F y l hy hl hbase
  unfold Oper.wp execOp
  simp only [ho, resolve, invoke, builtin, Sem.run_bind, Sem.run_pure, Result.andThen_ok, List.map_toArray, List.map_cons, List.map_nil, hs, hx, hrun]
  exact h a' c' w' h2 h3 h4
theorem wpList_append_nsl (w : World) {ops : Array Oper} {rest : List Oper} {o : Oper} {a : Act} {Q : Exit → Act → World → Prop} (hgd : o.guard = none) (s x : Operand)
    (ho : o.op = .call { callee := .builtin .append, args := #[s, x], argTypes := #[98, 98] })
    (base : Nat) (v : Value) (cs : List Int) (hs : a.eval s = v) (hown : IOwn base w v cs) (F : Nat → Prop) (y : Value) (l : List Int) (hx : a.eval x = y) (hy : NSl w F y l) (hl : cs.length + l.length ≤ 100000) (hbase : base ≤ w.heap.size)
    (h : ∀ a' c' w', IOwn base w' (.slice a' (cs.length + l.length) c') (cs ++ l) → w.grownBy w' v.ownBlock → ((Value.slice a' (cs.length + l.length) c').ownBlock = v.ownBlock ∨ (Value.slice a' (cs.length + l.length) c').ownBlock = some w.heap.size) → wpList Try.prog ops Q rest (a.put o.dst (.slice a' (cs.length + l.length) c')) w') : wpList Try.prog ops Q (o :: rest) a w :=
  wpList_plain hgd fun K hK => wp_append_nsl w s x ho base v cs hs hown F y l hx hy hl hbase fun a' c' w' h2 h3 h4 => hK _ _ (h a' c' w' h2 h3 h4)
theorem step_append_nsl (w : World) {ops : Array Oper} {o : Oper} {a : Act} {K : Act → World → Prop} {Q : Exit → Act → World → Prop} {E : Prop} (hgd : o.guard = none) (s x : Operand)
    (ho : o.op = .call { callee := .builtin .append, args := #[s, x], argTypes := #[98, 98] })
    (base : Nat) (v : Value) (cs : List Int) (hs : a.eval s = v) (hown : IOwn base w v cs) (F : Nat → Prop) (y : Value) (l : List Int) (hx : a.eval x = y) (hy : NSl w F y l) (hl : cs.length + l.length ≤ 100000) (hbase : base ≤ w.heap.size)
    (h : ∀ a' c' w', IOwn base w' (.slice a' (cs.length + l.length) c') (cs ++ l) → w.grownBy w' v.ownBlock → ((Value.slice a' (cs.length + l.length) c').ownBlock = v.ownBlock ∨ (Value.slice a' (cs.length + l.length) c').ownBlock = some w.heap.size) → K (a.put o.dst (.slice a' (cs.length + l.length) c')) w') :
    if Region.wanted o (yielded ops a.tmps) = true then Oper.wp Try.prog o a w K Q else E := by
  have hw : Region.wanted o (yielded ops a.tmps) = true := by simp [Region.wanted, hgd]
  rw [if_pos hw]
  exact wp_append_nsl w s x ho base v cs hs hown F y l hx hy hl hbase h
/-- One number in a block of its own reads as a slice. -/
theorem nsl_one {w : World} {b : Nat} {x : Int} (hb : w.heap[b]? = some (.cells #[.int .i64 x] 3 (0, 0))) : NSl w (fun _ => True) (.slice (some ⟨b, 0, none⟩) 1 1) [x] :=
  ⟨_, 1, rfl, Nat.le_refl _, by unfold maxLen; omega, (fun h => by cases h), fun _ => ⟨b, 0, rfl, trivial, heap_lt hb, fun j hj => by
    have : j = 0 := by simpa using hj
    subst this
    exact cell_of_row _ _ 0 _ _ _ hb⟩⟩
/-- append of one number to a slice with no room: a new row. -/
theorem wp_append_clip (w : World) {o : Oper} {a : Act} {K : Act → World → Prop} {Q : Exit → Act → World → Prop} (s x : Operand)
    (ho : o.op = .call { callee := .builtin .append, args := #[s, x], argTypes := #[98, 98] })
    (ao : Option Addr) (n : Nat) (l : List Int) (F : Nat → Prop) (hs : a.eval s = .slice ao n n) (hl : NSl w F (.slice ao n n) l) (b : Nat) (y : Int) (hx : a.eval x = .slice (some ⟨b, 0, none⟩) 1 1) (hb : w.heap[b]? = some (.cells #[.int .i64 y] 3 (0, 0))) (hm : l.length ≤ 100000)
    (h : ∀ a' c' w', IOwn w.heap.size w' (.slice a' (n + 1) c') (l ++ [y]) → w.grownBy w' none → K (a.put o.dst (.slice a' (n + 1) c')) w') : o.wp Try.prog a w K Q := by
  obtain ⟨i0, hi, hz0, hz1, hz2⟩ := info_parts info_int
  have hn := hl.len.1
  have key : ∃ v' w', (Builtin.append_ #[98, 98] o.type #[.slice ao n n, .slice (some ⟨b, 0, none⟩) 1 1]).run Try.prog w = .ok v' w' ∧ w'.ownsRow w.heap.size 3 1 v' (n + 1) (ivs l ++ [.int .i64 y]) ∧ w.grownBy w' none := by
    cases ao with
    | some ad =>
      exact run_append_arg_grows (P := Try.prog) w 98 o.type 3 i0 _ 1 8 Try.underlying98 hi hz0 hz1 hz2 rfl (by decide) ad n n (ivs l) (by simp [hn]) (nsl_cells hl) ⟨b, 0, none⟩ 1 1 [.int .i64 y] rfl (World.news_of_block (cs := #[.int .i64 y]) hb) (by omega) (by unfold maxLen; omega) (by omega)
    | none =>
      obtain ⟨a', cap', h1, h2, h3, h4, h5⟩ := hl
      injection h1 with h1 h6 h7
      have := h4 h1.symm
      subst this
      obtain rfl : n = 0 := by omega
      obtain rfl : l = [] := List.eq_nil_of_length_eq_zero (by omega)
      obtain ⟨v', w', hrun, r1, r2, _⟩ := run_append_own (P := Try.prog) w w.heap.size 98 o.type 3 i0 _ 1 8 Try.underlying98 hi hz0 hz1 hz2 rfl (by decide) (.slice none 0 0) 0 [] (World.ownsRow_nil w _ _ _) ⟨b, 0, none⟩ 1 1 [.int .i64 y] rfl (World.news_of_block (cs := #[.int .i64 y]) hb) (by simp [Value.oneCell']) (by unfold maxLen; omega) (by omega) (Nat.le_refl _)
      exact ⟨v', w', hrun, by simpa using r1, r2⟩
  obtain ⟨v', w', hrun, h2, h3⟩ := key
  have h2' : IOwn w.heap.size w' v' (l ++ [y]) := by unfold IOwn ivs; rw [List.map_append, List.length_append, ← hn]; exact h2
  obtain ⟨a', c', e⟩ := h2'.form
  rw [List.length_append, ← hn] at e
  have e : v' = .slice a' (n + 1) c' := e
  subst e
  unfold Oper.wp execOp
  simp only [ho, resolve, invoke, builtin, Sem.run_bind, Sem.run_pure, Result.andThen_ok, List.map_toArray, List.map_cons, List.map_nil, hs, hx, hrun]
  exact h a' c' w' h2' h3
theorem step_append_clip (w : World) {ops : Array Oper} {o : Oper} {a : Act} {K : Act → World → Prop} {Q : Exit → Act → World → Prop} {E : Prop} (hgd : o.guard = none) (s x : Operand)
    (ho : o.op = .call { callee := .builtin .append, args := #[s, x], argTypes := #[98, 98] })
    (ao : Option Addr) (n : Nat) (l : List Int) (F : Nat → Prop) (hs : a.eval s = .slice ao n n) (hl : NSl w F (.slice ao n n) l) (b : Nat) (y : Int) (hx : a.eval x = .slice (some ⟨b, 0, none⟩) 1 1) (hb : w.heap[b]? = some (.cells #[.int .i64 y] 3 (0, 0))) (hm : l.length ≤ 100000)
    (h : ∀ a' c' w', IOwn w.heap.size w' (.slice a' (n + 1) c') (l ++ [y]) → w.grownBy w' none → K (a.put o.dst (.slice a' (n + 1) c')) w') :
    if Region.wanted o (yielded ops a.tmps) = true then Oper.wp Try.prog o a w K Q else E := by
  have hw : Region.wanted o (yielded ops a.tmps) = true := by simp [Region.wanted, hgd]
  rw [if_pos hw]
  exact wp_append_clip w s x ho ao n l F hs hl b y hx hb hm h
end Go.Proofs.Ytiifkcjngajegaa
namespace Go.Proofs.Ytiifkcjngajegaa
open Go.RowKit
set_option linter.unusedVariables false

/-- A list of numbers is told. -/
def ListEnd (F : Nat → Prop) (l : List Int) (w : World) (e : Ending) (w' : World) : Prop := ∃ v, e = .returned v ∧ NSl w' (fun k => F k ∨ w.heap.size ≤ k) v l ∧ Kept NoB w w'
def BoolE (b : Bool) (w : World) (e : Ending) (w' : World) : Prop := e = .returned (.bool b) ∧ Kept NoB w w'
theorem retB {a b : Bool} (h : a = b) : Ending.returned (.bool a) = .returned (.bool b) := by rw [h]
theorem cells5 {w : World} {b : Nat} {x0 x1 x2 x3 x4 : Value} {t : TypeId} (h : w.heap[b]? = some (.cells #[x0, x1, x2, x3, x4] t (0, 0))) :
    w.cell? ⟨b, 0, none⟩ = some x0 ∧ w.cell? ⟨b, 1, none⟩ = some x1 ∧ w.cell? ⟨b, 2, none⟩ = some x2 ∧ w.cell? ⟨b, 3, none⟩ = some x3 ∧ w.cell? ⟨b, 4, none⟩ = some x4 :=
  ⟨cell_of_row _ _ 0 _ _ _ h, cell_of_row _ _ 1 _ _ _ h, cell_of_row _ _ 2 _ _ _ h, cell_of_row _ _ 3 _ _ _ h, cell_of_row _ _ 4 _ _ _ h⟩
end Go.Proofs.Ytiifkcjngajegaa
namespace Go.Proofs.Ytiifkcjngajegaa
open Go.RowKit
set_option linter.unusedVariables false

theorem rgt_is (c : Cf) (d : Bool) (hd : d = unqB c.mem) : rgtB c = decide (0 ≤ c.ch ∧ c.ch ≤ 3 ∧ 1 ≤ c.ep ∧ 1 ≤ c.ns.length ∧ c.ns.length ≤ 5 ∧ (c.fr = true → 2 ≤ c.ns.length ∧ c.jn = 0) ∧ d = true) := by
  subst hd
  unfold rgtB Rgt unqB
  congr 1
  simp
end Go.Proofs.Ytiifkcjngajegaa
namespace Go.Proofs.Ytiifkcjngajegaa
open Go.RowKit
set_option linter.unusedVariables false

end Go.Proofs.Ytiifkcjngajegaa
