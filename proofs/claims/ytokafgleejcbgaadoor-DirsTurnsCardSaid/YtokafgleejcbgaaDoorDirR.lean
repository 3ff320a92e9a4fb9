/-
  Layer 29: Get of the chapter.
-/
import Derived.Test.YtokafgleejcbgaaDoorDirQ
namespace Go.Proofs.YtokafgleejcbgaaDoor
open Go.RowKit
set_option linter.unusedVariables false

theorem sub29 {w : World} {F : Nat → Prop} {b o n cap i m : Nat} {l : List Int} (h : BSl w F (.slice (some ⟨b, o, none⟩) n cap) l) (hn : n = l.length) (him : i + m ≤ l.length) : BSl w F (.slice (some ⟨b, o + i, none⟩) m (cap - i)) ((l.drop i).take m) := by
  obtain ⟨a, c, he, h1, h2, h3, h4, h5⟩ := h
  injection he with he1 he2 he3
  subst he1 he3
  have hlen : ((l.drop i).take m).length = m := by rw [List.length_take, List.length_drop]; omega
  refine ⟨_, _, by rw [hlen], by rw [hlen]; omega, by omega, (fun h => by cases h), fun z hz => h4 z (List.mem_of_mem_drop (List.mem_of_mem_take hz)), fun hp => ?_⟩
  obtain ⟨b', o', e, hF, hb, hc⟩ := h5 (by rw [hlen] at hp; omega)
  cases e
  refine ⟨b, o + i, rfl, hF, hb, fun j hj => ?_⟩
  rw [hlen] at hj
  have := hc (i + j) (by omega)
  rw [Nat.add_assoc, this]
  simp [List.getD_eq_getElem?_getD, List.getElem?_drop, hj]
theorem EOwn.row29 {t : TypeId} {B : Nat} {w : World} {v : Value} {l : List En} (h : EOwn t B w v l) : ∀ k, v.ownBlock = some k → B ≤ k := by
  intro k hk
  rcases h.2 with ⟨rfl, _⟩ | ⟨r, cap, cur, rfl, hb, _⟩
  · cases hk
  · injection hk with hk
    replace hk : r = k := hk
    omega
def RGetRel (W : World) (bs : List Int) (nn : Nat) (ov iv : Value) (wr : World) : Prop :=
  ∃ (k : Nat) (a : Option Addr) (c : Nat) (L : List En), k ≤ nn ∧ iv = .int .i64 ((16 * k : Nat) : Int) ∧ ov = .slice a k c ∧ EOwn 24 W.heap.size wr ov L ∧ L.length = k ∧ entsR nn bs = (entsR (nn - k) (bs.drop (16 * k))).map (fun r => L ++ r) ∧ (∀ p ∈ L, p.1.length ≤ 11) ∧ Kept (fun i => W.heap.size ≤ i) W wr
end Go.Proofs.YtokafgleejcbgaaDoor
