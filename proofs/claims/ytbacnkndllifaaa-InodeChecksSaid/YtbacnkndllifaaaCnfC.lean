/-
  Configurations in memory: numbers in a slice, one configuration, a slice of them.
-/
import Derived.Test.YtbacnkndllifaaaCnfB
import Derived.Test.YtbacnkndllifaaaBase

namespace Go.Proofs.Ytbacnkndllifaaa
open Go.RowKit
set_option linter.unusedVariables false

/-- A slice that reads as these numbers, in blocks of F. -/
def NSl (w : World) (F : Nat → Prop) (v : Value) (l : List Int) : Prop :=
  ∃ a cap, v = .slice a l.length cap ∧ l.length ≤ cap ∧ cap ≤ maxLen ∧ (a = none → cap = 0) ∧
    (0 < l.length → ∃ b o, a = some ⟨b, o, none⟩ ∧ F b ∧ b < w.heap.size ∧ ∀ j, j < l.length → w.cell? ⟨b, o + j, none⟩ = some (.int .i64 (l.getD j 0)))
theorem NSl.nil (w : World) (F : Nat → Prop) : NSl w F (.slice none 0 0) [] := ⟨none, 0, rfl, Nat.le_refl _, Nat.zero_le _, fun _ => rfl, fun h => absurd h (by simp)⟩
theorem NSl.kept {S F : Nat → Prop} {w w' : World} {v : Value} {l : List Int} (h : NSl w F v l) (hk : Kept S w w') (hs : ∀ k, k < w.heap.size → F k → ¬ S k) : NSl w' F v l := by
  obtain ⟨a, cap, h1, h2, h3, h4, h5⟩ := h
  refine ⟨a, cap, h1, h2, h3, h4, fun hl => ?_⟩
  obtain ⟨b, o, ha, hF, hb, hc⟩ := h5 hl
  exact ⟨b, o, ha, hF, Nat.lt_of_lt_of_le hb hk.size, fun j hj => hk.cell (p := ⟨b, o + j, none⟩) (hs b hb hF) (hc j hj)⟩
theorem NSl.mono {F G : Nat → Prop} {w : World} {v : Value} {l : List Int} (h : NSl w F v l) (hG : ∀ k, k < w.heap.size → F k → G k) : NSl w G v l := by
  obtain ⟨a, cap, h1, h2, h3, h4, h5⟩ := h
  refine ⟨a, cap, h1, h2, h3, h4, fun hl => ?_⟩
  obtain ⟨b, o, ha, hF, hb, hc⟩ := h5 hl
  exact ⟨b, o, ha, hG b hb hF, hb, hc⟩
theorem NSl.at_ {F : Nat → Prop} {w : World} {a : Option Addr} {n cap : Nat} {l : List Int} (h : NSl w F (.slice a n cap) l) {j : Nat} (hj : j < l.length) :
    ∃ b o, a = some ⟨b, o, none⟩ ∧ F b ∧ b < w.heap.size ∧ w.cell? ⟨b, o + j, none⟩ = some (.int .i64 (l.getD j 0)) := by
  obtain ⟨a', cap', h1, h2, h3, h4, h5⟩ := h
  injection h1 with h1 _ _
  subst h1
  obtain ⟨b, o, ha, hF, hb, hc⟩ := h5 (by omega)
  exact ⟨b, o, ha, hF, hb, hc j hj⟩
theorem NSl.len {F : Nat → Prop} {w : World} {a : Option Addr} {n cap : Nat} {l : List Int} (h : NSl w F (.slice a n cap) l) : n = l.length ∧ n ≤ cap ∧ cap ≤ maxLen := by
  obtain ⟨a', cap', h1, h2, h3, h4, h5⟩ := h
  injection h1 with _ h1 h6
  subst h1 h6
  exact ⟨rfl, h2, h3⟩
theorem nsl_take {F : Nat → Prop} {w : World} {a : Option Addr} {n cap : Nat} {l : List Int} (h : NSl w F (.slice a n cap) l) {k : Nat} (hk : k ≤ l.length) : NSl w F (.slice a k cap) (l.take k) := by
  obtain ⟨a', cap', h1, h2, h3, h4, h5⟩ := h
  injection h1 with h1 h6 h7
  subst h1 h6 h7
  have e : (l.take k).length = k := by rw [List.length_take, Nat.min_eq_left hk]
  refine ⟨a, cap, by rw [e], by omega, h3, h4, fun hl => ?_⟩
  obtain ⟨b, o, ha, hF, hb, hc⟩ := h5 (by omega)
  refine ⟨b, o, ha, hF, hb, fun j hj => ?_⟩
  rw [hc j (by omega)]
  have hjk : j < k := by omega
  simp [hjk]
theorem nsl_clip {F : Nat → Prop} {w : World} {a : Option Addr} {n cap : Nat} {l : List Int} (h : NSl w F (.slice a n cap) l) : NSl w F (.slice a n n) l := by
  obtain ⟨a', cap', h1, h2, h3, h4, h5⟩ := h
  injection h1 with h1 h6 h7
  subst h1 h6 h7
  exact ⟨a, l.length, rfl, Nat.le_refl _, by omega, fun e => by have := h4 e; omega, h5⟩
/-- A configuration as a value. -/
def CfV (w : World) (F : Nat → Prop) (v : Value) (c : Cf) : Prop :=
  ∃ u, v = .agg #[.int .i64 c.ch, .int .u64 c.ep, u, .bool c.fr, .int .i64 c.jn] ∧ NSl w F u c.ns ∧ 0 ≤ c.ep ∧ c.ep ≤ topE ∧ c.ns.length ≤ 1000
/-- One that lies in five cells. -/
def CfAt (w : World) (F : Nat → Prop) (b o : Nat) (c : Cf) : Prop :=
  ∃ u, w.cell? ⟨b, o, none⟩ = some (.int .i64 c.ch) ∧ w.cell? ⟨b, o + 1, none⟩ = some (.int .u64 c.ep) ∧ w.cell? ⟨b, o + 2, none⟩ = some u ∧ w.cell? ⟨b, o + 3, none⟩ = some (.bool c.fr) ∧
    w.cell? ⟨b, o + 4, none⟩ = some (.int .i64 c.jn) ∧ NSl w F u c.ns ∧ 0 ≤ c.ep ∧ c.ep ≤ topE ∧ c.ns.length ≤ 1000
theorem CfV.kept {S F : Nat → Prop} {w w' : World} {v : Value} {c : Cf} (h : CfV w F v c) (hk : Kept S w w') (hs : ∀ k, k < w.heap.size → F k → ¬ S k) : CfV w' F v c := by
  obtain ⟨u, h1, h2, h3⟩ := h
  exact ⟨u, h1, h2.kept hk hs, h3⟩
theorem CfV.mono {F G : Nat → Prop} {w : World} {v : Value} {c : Cf} (h : CfV w F v c) (hG : ∀ k, k < w.heap.size → F k → G k) : CfV w G v c := by
  obtain ⟨u, h1, h2, h3⟩ := h
  exact ⟨u, h1, h2.mono hG, h3⟩
theorem CfAt.kept {S F : Nat → Prop} {w w' : World} {b o : Nat} {c : Cf} (h : CfAt w F b o c) (hk : Kept S w w') (hb : ¬ S b) (hs : ∀ k, k < w.heap.size → F k → ¬ S k) : CfAt w' F b o c := by
  obtain ⟨u, h1, h2, h3, h4, h5, h6, h7⟩ := h
  exact ⟨u, hk.cell hb h1, hk.cell hb h2, hk.cell hb h3, hk.cell hb h4, hk.cell hb h5, h6.kept hk hs, h7⟩
theorem CfAt.mono {F G : Nat → Prop} {w : World} {b o : Nat} {c : Cf} (h : CfAt w F b o c) (hG : ∀ k, k < w.heap.size → F k → G k) : CfAt w G b o c := by
  obtain ⟨u, h1, h2, h3, h4, h5, h6, h7⟩ := h
  exact ⟨u, h1, h2, h3, h4, h5, h6.mono hG, h7⟩
/-- A slice of configurations. -/
def CfsAt (w : World) (F : Nat → Prop) (v : Value) (l : List Cf) : Prop :=
  ∃ a cap, v = .slice a l.length cap ∧ l.length ≤ cap ∧ cap ≤ maxLen ∧ (a = none → cap = 0) ∧
    (0 < l.length → ∃ b o, a = some ⟨b, o, none⟩ ∧ F b ∧ b < w.heap.size ∧ ∀ j, j < l.length → CfAt w F b (o + j * 5) (nthC l j))
theorem CfsAt.nil (w : World) (F : Nat → Prop) : CfsAt w F (.slice none 0 0) [] := ⟨none, 0, rfl, Nat.le_refl _, Nat.zero_le _, fun _ => rfl, fun h => absurd h (by simp)⟩
theorem CfsAt.kept {S F : Nat → Prop} {w w' : World} {v : Value} {l : List Cf} (h : CfsAt w F v l) (hk : Kept S w w') (hs : ∀ k, k < w.heap.size → F k → ¬ S k) : CfsAt w' F v l := by
  obtain ⟨a, cap, h1, h2, h3, h4, h5⟩ := h
  refine ⟨a, cap, h1, h2, h3, h4, fun hl => ?_⟩
  obtain ⟨b, o, ha, hF, hb, hc⟩ := h5 hl
  exact ⟨b, o, ha, hF, Nat.lt_of_lt_of_le hb hk.size, fun j hj => (hc j hj).kept hk (hs b hb hF) hs⟩
theorem CfsAt.mono {F G : Nat → Prop} {w : World} {v : Value} {l : List Cf} (h : CfsAt w F v l) (hG : ∀ k, k < w.heap.size → F k → G k) : CfsAt w G v l := by
  obtain ⟨a, cap, h1, h2, h3, h4, h5⟩ := h
  refine ⟨a, cap, h1, h2, h3, h4, fun hl => ?_⟩
  obtain ⟨b, o, ha, hF, hb, hc⟩ := h5 hl
  exact ⟨b, o, ha, hG b hb hF, hb, fun j hj => (hc j hj).mono hG⟩
theorem CfsAt.at_ {F : Nat → Prop} {w : World} {a : Option Addr} {n cap : Nat} {l : List Cf} (h : CfsAt w F (.slice a n cap) l) {j : Nat} (hj : j < l.length) :
    ∃ b o, a = some ⟨b, o, none⟩ ∧ F b ∧ b < w.heap.size ∧ CfAt w F b (o + j * 5) (nthC l j) := by
  obtain ⟨a', cap', h1, h2, h3, h4, h5⟩ := h
  injection h1 with h1 _ _
  subst h1
  obtain ⟨b, o, ha, hF, hb, hc⟩ := h5 (by omega)
  exact ⟨b, o, ha, hF, hb, hc j hj⟩
theorem CfsAt.len {F : Nat → Prop} {w : World} {a : Option Addr} {n cap : Nat} {l : List Cf} (h : CfsAt w F (.slice a n cap) l) : n = l.length ∧ n ≤ cap ∧ cap ≤ maxLen := by
  obtain ⟨a', cap', h1, h2, h3, h4, h5⟩ := h
  injection h1 with _ h1 h6
  subst h1 h6
  exact ⟨rfl, h2, h3⟩
theorem nthC_take {l : List Cf} {k j : Nat} (h : j < k) : nthC (l.take k) j = nthC l j := by
  unfold nthC
  rw [List.getD_eq_getElem?_getD, List.getD_eq_getElem?_getD, List.getElem?_take, if_pos h]
theorem cfs_take {F : Nat → Prop} {w : World} {a : Option Addr} {n cap : Nat} {l : List Cf} (h : CfsAt w F (.slice a n cap) l) {k : Nat} (hk : k ≤ l.length) : CfsAt w F (.slice a k cap) (l.take k) := by
  obtain ⟨a', cap', h1, h2, h3, h4, h5⟩ := h
  injection h1 with h1 h6 h7
  subst h1 h6 h7
  have e : (l.take k).length = k := by rw [List.length_take, Nat.min_eq_left hk]
  refine ⟨a, cap, by rw [e], by omega, h3, h4, fun hl => ?_⟩
  obtain ⟨b, o, ha, hF, hb, hc⟩ := h5 (by omega)
  refine ⟨b, o, ha, hF, hb, fun j hj => ?_⟩
  rw [nthC_take (by omega)]
  exact hc j (by omega)
/-- A configuration that was laid into a block of its own. -/
theorem CfV.laid {F : Nat → Prop} {w : World} {u : Value} {c : Cf} {b : Nat} {t : TypeId} (hb : w.heap[b]? = some (.cells #[.int .i64 c.ch, .int .u64 c.ep, u, .bool c.fr, .int .i64 c.jn] t (0, 0))) (hu : NSl w F u c.ns) (h0 : 0 ≤ c.ep) (h1 : c.ep ≤ topE) (h2 : c.ns.length ≤ 1000) : CfAt w F b 0 c :=
  ⟨u, cell_of_row _ _ 0 _ _ _ hb, cell_of_row _ _ 1 _ _ _ hb, cell_of_row _ _ 2 _ _ _ hb, cell_of_row _ _ 3 _ _ _ hb, cell_of_row _ _ 4 _ _ _ hb, hu, h0, h1, h2⟩
end Go.Proofs.Ytbacnkndllifaaa
