/-
  The chapter's Right. slices.ContainsFunc over numbers and configurations; who is used. Package conf and its answer: who is used. Package conf: All. The chapter's All; who is settled; copies. Copies: of numbers, of configurations. Package conf: Copy. Whether two lists of numbers, two configurations, two lists of them are the same.
-/
import Derived.Test.YtiifkcjngajegaaCnf1
namespace Go.Proofs.Ytiifkcjngajegaa
open Go.RowKit
set_option linter.unusedVariables false

end Go.Proofs.Ytiifkcjngajegaa
namespace Go.Proofs.Ytiifkcjngajegaa
open Go.RowKit
set_option linter.unusedVariables false

/-- A function of the program that has a body. -/
def Enters (f : FuncId) : Prop := ∀ (args : Array Value) (w : World), Sem.run Try.prog (callFunc f args) w = .ok (.enter f args) w
/-- A function literal that tells p of a number, in any later world. -/
def TellsN (f : FuncId) (caps : Array Value) (l : List Int) (p : Int → Bool) (w : World) : Prop :=
  Enters f ∧ ∀ x w', x ∈ l → Kept NoB w w' → Calls Try.prog f (#[.int .i64 x] ++ caps) w' (BoolE (p x) w')
/-- A function literal that tells p of a configuration, in any later world. -/
def TellsC (f : FuncId) (caps : Array Value) (l : List Cf) (p : Cf → Bool) (w : World) : Prop :=
  Enters f ∧ ∀ v c w' (F : Nat → Prop), c ∈ l → CfV w' F v c → Kept NoB w w' → Calls Try.prog f (#[v] ++ caps) w' (BoolE (p c) w')
end Go.Proofs.Ytiifkcjngajegaa
namespace Go.Proofs.Ytiifkcjngajegaa
open Go.RowKit
set_option linter.unusedVariables false

theorem cf_eta (w : World) (F : Nat → Prop) (c : Cf) (u : Value) (h : NSl w F u c.ns) (hb : 0 ≤ c.ep ∧ c.ep ≤ topE ∧ c.ns.length ≤ 1000) : CfV w F (.agg #[.int .i64 c.ch, .int .u64 c.ep, u, .bool c.fr, .int .i64 c.jn]) c := ⟨u, rfl, h, hb⟩
end Go.Proofs.Ytiifkcjngajegaa
namespace Go.Proofs.Ytiifkcjngajegaa
open Go.RowKit
set_option linter.unusedVariables false

theorem balloc {w : World} {g : Nat} {o : Obj} (h : w.heap[g]? = some o) (x : Obj) : (w.alloc x).heap[g]? = some o := (heap_alloc_old w x (heap_lt h)).trans h
end Go.Proofs.Ytiifkcjngajegaa
namespace Go.Proofs.Ytiifkcjngajegaa
open Go.RowKit
set_option linter.unusedVariables false

theorem memL_small {l : List Cf} (h : ∀ i, i < l.length → Rgt (nthC l i)) (k : Nat) (hk : k ≤ l.length) : (memL (l.take k)).length ≤ 6 * k := by
  induction k with
  | zero => simp [memL]
  | succ k ih =>
    rw [memL_take (by omega), List.length_append]
    have h1 := ih (by omega)
    have h2 := (h k (by omega)).2.2.2.2.1
    have h3 : (nthC l k).mem.length ≤ (nthC l k).ns.length + 1 := by
      unfold Cf.mem
      split
      · omega
      · simp
    omega
theorem all_len4 {l : List Cf} (h : allB l = true) : l.length ≤ 4 := (of_decide_eq_true h : AllC l).2.1
end Go.Proofs.Ytiifkcjngajegaa
namespace Go.Proofs.Ytiifkcjngajegaa
open Go.RowKit
set_option linter.unusedVariables false

/-- The cells of a list of configurations; us: their nodes' slices. -/
def cellC (l : List Cf) (us : Nat → Value) (m : Nat) : Value :=
  if m % 5 = 0 then .int .i64 (nthC l (m / 5)).ch else if m % 5 = 1 then .int .u64 (nthC l (m / 5)).ep else if m % 5 = 2 then us (m / 5) else if m % 5 = 3 then .bool (nthC l (m / 5)).fr else .int .i64 (nthC l (m / 5)).jn
theorem cellC0 (l : List Cf) (us : Nat → Value) (j : Nat) : cellC l us (j * 5) = .int .i64 (nthC l j).ch := by
  unfold cellC
  rw [if_pos (by omega), show j * 5 / 5 = j by omega]
theorem cellC1 (l : List Cf) (us : Nat → Value) (j : Nat) : cellC l us (j * 5 + 1) = .int .u64 (nthC l j).ep := by
  unfold cellC
  rw [if_neg (by omega), if_pos (by omega), show (j * 5 + 1) / 5 = j by omega]
theorem cellC2 (l : List Cf) (us : Nat → Value) (j : Nat) : cellC l us (j * 5 + 2) = us j := by
  unfold cellC
  rw [if_neg (by omega), if_neg (by omega), if_pos (by omega), show (j * 5 + 2) / 5 = j by omega]
theorem cellC3 (l : List Cf) (us : Nat → Value) (j : Nat) : cellC l us (j * 5 + 3) = .bool (nthC l j).fr := by
  unfold cellC
  rw [if_neg (by omega), if_neg (by omega), if_neg (by omega), if_pos (by omega), show (j * 5 + 3) / 5 = j by omega]
theorem cellC4 (l : List Cf) (us : Nat → Value) (j : Nat) : cellC l us (j * 5 + 4) = .int .i64 (nthC l j).jn := by
  unfold cellC
  rw [if_neg (by omega), if_neg (by omega), if_neg (by omega), if_neg (by omega), show (j * 5 + 4) / 5 = j by omega]
def cellsC (l : List Cf) (us : Nat → Value) : List Value := (List.range (l.length * 5)).map (cellC l us)
theorem cellsC_at {l : List Cf} {us : Nat → Value} {m : Nat} (h : m < l.length * 5) : (cellsC l us)[m]? = some (cellC l us m) := by
  unfold cellsC
  rw [List.getElem?_map, List.getElem?_range h]
  rfl
/-- Each one's nodes lie where they are read. -/
def NodesC (w : World) (F : Nat → Prop) (l : List Cf) (us : Nat → Value) : Prop := ∀ j, j < l.length → NSl w F (us j) (nthC l j).ns ∧ 0 ≤ (nthC l j).ep ∧ (nthC l j).ep ≤ topE ∧ (nthC l j).ns.length ≤ 1000
theorem NodesC.kept {S F : Nat → Prop} {w w' : World} {l : List Cf} {us : Nat → Value} (h : NodesC w F l us) (hk : Kept S w w') (hs : ∀ k, k < w.heap.size → F k → ¬ S k) : NodesC w' F l us :=
  fun j hj => ⟨(h j hj).1.kept hk hs, (h j hj).2⟩
/-- The slices of the nodes of configurations that are read. -/
theorem cfs_us {F : Nat → Prop} {w : World} {a : Option Addr} {n cap : Nat} {l : List Cf} (h : CfsAt w F (.slice a n cap) l) :
    ∃ us : Nat → Value, NodesC w F l us ∧ ∀ ad, a = some ad → ∀ m u, (cellsC l us)[m]? = some u → w.cell? (ad.add m) = some u := by
  have key : ∀ j, ∃ u, j < l.length → (NSl w F u (nthC l j).ns ∧ 0 ≤ (nthC l j).ep ∧ (nthC l j).ep ≤ topE ∧ (nthC l j).ns.length ≤ 1000) ∧ ∀ ad, a = some ad → ∀ i, i < 5 → w.cell? (ad.add (j * 5 + i)) = some (cellC l (fun _ => u) (j * 5 + i)) := by
    intro j
    by_cases hj : j < l.length
    · obtain ⟨b, o, ha, _, _, u, e0, e1, e2, e3, e4, hn, hb⟩ := h.at_ hj
      refine ⟨u, fun _ => ⟨⟨hn, hb⟩, fun ad had i hi => ?_⟩⟩
      rw [ha] at had
      injection had with had
      subst had
      have hadd : ∀ m, (⟨b, o, none⟩ : Addr).add m = ⟨b, o + m, none⟩ := fun m => by unfold Addr.add; split <;> simp_all
      rw [hadd]
      rcases (by omega : i = 0 ∨ i = 1 ∨ i = 2 ∨ i = 3 ∨ i = 4) with rfl | rfl | rfl | rfl | rfl
      · rw [Nat.add_zero, cellC0]; exact e0
      · rw [cellC1, ← Nat.add_assoc]; exact e1
      · rw [cellC2, ← Nat.add_assoc]; exact e2
      · rw [cellC3, ← Nat.add_assoc]; exact e3
      · rw [cellC4, ← Nat.add_assoc]; exact e4
    · exact ⟨undef, fun h => absurd h hj⟩
  refine ⟨fun j => Classical.choose (key j), fun j hj => (Classical.choose_spec (key j) hj).1, fun ad had m u hu => ?_⟩
  have hm : m < l.length * 5 := by
    rcases Nat.lt_or_ge m (l.length * 5) with h | h
    · exact h
    · rw [List.getElem?_eq_none (by simpa [cellsC] using h)] at hu; cases hu
  rw [cellsC_at hm] at hu
  injection hu with hu
  have hs := (Classical.choose_spec (key (m / 5)) (by omega)).2 ad had (m % 5) (by omega)
  rw [show m / 5 * 5 + m % 5 = m by omega] at hs
  rw [hs, ← hu]
  rfl
theorem cellsC_one {l : List Cf} {us : Nat → Value} {w : World} {F : Nat → Prop} (h : NodesC w F l us) : ∀ u ∈ cellsC l us, u.oneCell' = true := by
  intro u hu
  unfold cellsC at hu
  obtain ⟨m, hm, rfl⟩ := List.mem_map.1 hu
  rw [List.mem_range] at hm
  unfold cellC
  split
  · rfl
  · split
    · rfl
    · split
      · obtain ⟨a, cap, he, _⟩ := (h (m / 5) (by omega)).1
        rw [he]
        rfl
      · split <;> rfl
end Go.Proofs.Ytiifkcjngajegaa
namespace Go.Proofs.Ytiifkcjngajegaa
open Go.RowKit
set_option linter.unusedVariables false

/-- Each one's nodes are a row of the call's own, each another one. -/
def OwnC (B : Nat) (w : World) (l : List Cf) (us : Nat → Value) : Prop :=
  (∀ j, j < l.length → IOwn B w (us j) (nthC l j).ns ∧ 0 ≤ (nthC l j).ep ∧ (nthC l j).ep ≤ topE ∧ (nthC l j).ns.length ≤ 1000) ∧ (∀ i j k, i < l.length → j < l.length → i ≠ j → (us i).ownBlock = some k → (us j).ownBlock ≠ some k)
theorem OwnC.nodes {B : Nat} {w : World} {l : List Cf} {us : Nat → Value} (h : OwnC B w l us) : NodesC w (fun k => B ≤ k) l us := fun j hj => ⟨((h.1 j hj).1).nslB, (h.1 j hj).2⟩
theorem OnlyB.not {g k : Nat} (h : k ≠ g) : ¬ (fun i => i = g) k := h
theorem Kept.only' {S : Nat → Prop} {a w : World} (h : Kept S a w) {g : Nat} (hg : S g ∨ a.heap.size ≤ g) (o : Nat) (u : Value) : Kept S a (w.setCell ⟨g, o, none⟩ u) := h.setCell (p := ⟨g, o, none⟩) hg u
end Go.Proofs.Ytiifkcjngajegaa
namespace Go.Proofs.Ytiifkcjngajegaa
open Go.RowKit
set_option linter.unusedVariables false

theorem eq_list {l m : List Int} (hl : l.length = m.length) (h : ∀ j, j < l.length → l.getD j 0 = m.getD j 0) : l = m := by
  refine List.ext_getElem hl fun i h1 h2 => ?_
  have := h i h1
  rw [getD_at h1, getD_at h2] at this
  exact this
end Go.Proofs.Ytiifkcjngajegaa
