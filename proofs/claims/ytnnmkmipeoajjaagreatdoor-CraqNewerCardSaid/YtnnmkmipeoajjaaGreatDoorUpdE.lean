/-
  Package update: Copy, Batch, Fits, Runs.
-/
import Derived.Test.YtnnmkmipeoajjaaGreatDoorUpdD
namespace Go.Proofs.YtnnmkmipeoajjaaGreatDoor
open Go.RowKit
set_option linter.unusedVariables false
set_option linter.unusedSimpArgs false

/-- What Copy, Batch and Fits tell. -/
def OwnEnd (w : World) (out : List Up) (e : Ending) (w' : World) : Prop :=
  ∃ a c ps, e = .returned (.slice a out.length c) ∧ UOw 62 w.heap.size w' (.slice a out.length c) ps ∧ ps.map Prod.fst = out ∧ DatO w' (fun k => w.heap.size ≤ k) ps ∧ Kept NoB w w'
theorem OwnEnd.of {w w1 w' : World} {T : Nat → Prop} {St : Int → World → Prop} {s : Int} {out : List Up} {e : Ending} (h : SelEnd w1 T St s out e w') (hk : Kept NoB w w1) (hT : ∀ k, T k → w.heap.size ≤ k) : OwnEnd w out e w' := by
  obtain ⟨a, c, ps, h1, h2, h3, h4, _, h5⟩ := h
  exact ⟨a, c, ps, h1, h2.mono hk.size, h3, h4.mono (fun k _ h => by have := hk.size; omega), hk.trans h5 (fun i hi ht => by have := hT i ht; omega)⟩
theorem OwnEnd.us {w w' : World} {out : List Up} {e : Ending} (h : OwnEnd w out e w') : ∃ a c, e = .returned (.slice a out.length c) ∧ UsAt w' (fun k => w.heap.size ≤ k) (.slice a out.length c) out ∧ Kept NoB w w' := by
  obtain ⟨a, c, ps, h1, h2, h3, h4, h5⟩ := h
  exact ⟨a, c, h1, h3 ▸ h2.us (fun k hk => (h2.base k hk).1) h4.u, h5⟩
theorem seq_new (w : World) (s : Int) (h0 : 0 ≤ s) (h1 : s ≤ 18446744073709551615) : SeqSt w.heap.size s (w.alloc (.cells #[.int .u64 s] 25)) := ⟨heap_alloc_new w _, h0, h1⟩
def RunRel (w : World) (l : List Up) (b : Nat) (s0 : Int) (iv : Value) (wr : World) : Prop :=
  ∃ k : Nat, k ≤ l.length ∧ iv = .int .i64 k ∧ allU seqU s0 (l.take k) = true ∧ SeqSt b (endU seqU s0 (l.take k)) wr ∧ Kept (fun k => k = b) w wr
end Go.Proofs.YtnnmkmipeoajjaaGreatDoor
