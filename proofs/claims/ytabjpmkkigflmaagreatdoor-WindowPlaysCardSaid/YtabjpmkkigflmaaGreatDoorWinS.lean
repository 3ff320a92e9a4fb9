/-
  Both windows side by side.
-/
import Derived.Test.YtabjpmkkigflmaaGreatDoorWinR
namespace Go.Proofs.YtabjpmkkigflmaaGreatDoor
open Go.RowKit
set_option linter.unusedVariables false
set_option linter.unusedSimpArgs false

/-- A window, and the chapter's in a variable, that are the same. -/
structure PSt (w0 wr : World) (b rb : Nat) (S F : Nat → Prop) (x : Wn) : Prop where
  st : WSt w0 wr S b x
  rd : ∃ u, wr.heap[rb]? = some (.cells #[.int .u64 x.low, .int .u64 x.en, .int .u64 x.done, u] 29 (0, 0)) ∧ UsAt wr F u x.l
  fb : ∀ k, F k → k < wr.heap.size
  fs : ∀ k, F k → ¬ S k
  old : ∀ k, k < w0.heap.size → F k
  rs : ¬ S rb
  fr : ¬ F rb
  rnew : w0.heap.size ≤ rb
theorem PSt.no {w0 wr w' : World} {b rb : Nat} {S F : Nat → Prop} {x : Wn} (H : PSt w0 wr b rb S F x) (hk : Kept NoB wr w') : PSt w0 w' b rb S F x := by
  obtain ⟨u, h1, h2⟩ := H.rd
  exact ⟨H.st.no hk, ⟨u, hk.heap (fun h => h) h1, h2.no hk⟩, fun k h => Nat.lt_of_lt_of_le (H.fb k h) hk.size, H.fs, H.old, H.rs, H.fr, H.rnew⟩
theorem PSt.lt {w0 wr : World} {b rb : Nat} {S F : Nat → Prop} {x : Wn} (H : PSt w0 wr b rb S F x) : rb < wr.heap.size := by
  obtain ⟨u, h1, _⟩ := H.rd
  exact heap_lt h1
/-- The chapter's window takes what was told. -/
theorem PSt.next {w0 wr w2 w4 : World} {b rb : Nat} {S F S' : Nat → Prop} {x x' : Wn} (H : PSt w0 wr b rb S F x) {u' : Value} (hk2 : Kept NoB wr w2) (hu2 : UsAt w2 (NewOr17 F wr.heap.size) u' x'.l) (hw4 : WSt w0 w4 S' b x') (hS' : ∀ k, S' k → S k ∨ w2.heap.size ≤ k) (hk4 : Kept S w2 w4) :
    ∃ F', PSt w0 ((((w4.setCell ⟨rb, 0, none⟩ (.int .u64 x'.low)).setCell ⟨rb, 1, none⟩ (.int .u64 x'.en)).setCell ⟨rb, 2, none⟩ (.int .u64 x'.done)).setCell ⟨rb, 3, none⟩ u') b rb S' F' x' ∧
      Kept (fun k => S k ∨ k = rb) wr ((((w4.setCell ⟨rb, 0, none⟩ (.int .u64 x'.low)).setCell ⟨rb, 1, none⟩ (.int .u64 x'.en)).setCell ⟨rb, 2, none⟩ (.int .u64 x'.done)).setCell ⟨rb, 3, none⟩ u') := by
  obtain ⟨u, h1, h2⟩ := H.rd
  have hlt := H.lt
  have hz := hk2.size
  have hrs := H.rs
  have hrb : ¬ S' rb := fun h => by
    rcases hS' rb h with h | h
    · exact hrs h
    · omega
  have hb4 := hk4.heap hrs (hk2.heap (fun h => h) h1)
  have r := four10_at hb4 (.int .u64 x'.low) (.int .u64 x'.en) (.int .u64 x'.done) u'
  have hf := (Kept.refl (fun k => k = rb) w4).four10 (b := rb) (.inl rfl) 0 (.int .u64 x'.low) (.int .u64 x'.en) (.int .u64 x'.done) u'
  unfold Go.Proofs.YtabjpmkkigflmaaGreatDoor.four10 at r hf
  simp only [Nat.zero_add] at r hf
  have hrn := H.rnew
  have hfs : ∀ k, (NewOr17 F wr.heap.size k ∧ k < w2.heap.size) → ¬ S k := fun k ⟨h, _⟩ hS => by
    rcases h with h | h
    · exact H.fs k h hS
    · have := H.st.bound k hS; omega
  have hfr : ∀ k, (NewOr17 F wr.heap.size k ∧ k < w2.heap.size) → ¬ k = rb := fun k ⟨h, _⟩ e => by
    subst e
    rcases h with h | h
    · exact H.fr h
    · omega
  refine ⟨fun k => NewOr17 F wr.heap.size k ∧ k < w2.heap.size, ⟨⟨hw4.at_.kept hf (fun k h e => hrb (e ▸ h)), hw4.low, hw4.ok, hw4.nm, hw4.kept.trans hf (fun i hi (e : i = rb) => by omega)⟩, ⟨u', r, ?_⟩, ?_, ?_, ?_, hrb, fun h => hfr rb h rfl, hrn⟩, ?_⟩
  · exact ((hu2.mono (G := fun k => NewOr17 F wr.heap.size k ∧ k < w2.heap.size) (fun k hk h => ⟨h, hk⟩)).kept hk4 hfs).kept hf hfr
  · exact fun k h => Nat.lt_of_lt_of_le h.2 (Nat.le_trans hk4.size hf.size)
  · intro k h hS
    rcases hS' k hS with h' | h'
    · exact hfs k h h'
    · have := h.2; omega
  · exact fun k h => ⟨.inl (H.old k h), by have := H.fb k (H.old k h); omega⟩
  · exact ((hk2.mono (T := fun k => S k ∨ k = rb) (fun _ _ h => absurd h (fun h => h))).trans hk4 (fun _ _ h => .inl h)).trans hf (fun _ _ h => .inr h)
theorem addN_en (x : Wn) (u : Up) : (addN x u).en ≤ x.en + 1 ∧ (addN x u).l.length ≤ x.l.length + 1 := by
  unfold addN
  split
  · refine ⟨Nat.le_refl _, ?_⟩
    show ((x.l ++ [u]).drop _).length ≤ _
    rw [List.length_drop, List.length_append, List.length_singleton]
    omega
  · exact ⟨Nat.le_succ _, Nat.le_succ _⟩
theorem reachW_en (x : Wn) (d : Nat) : (reachW x d).en = x.en ∧ (reachW x d).l.length ≤ x.l.length := by
  refine ⟨rfl, ?_⟩
  show (x.l.drop _).length ≤ _
  rw [List.length_drop]
  omega
theorem cells11 {w : World} {b : Nat} {x0 x1 x2 x3 x4 x5 x6 x7 x8 x9 x10 : Value} {t : TypeId} (h : w.heap[b]? = some (.cells #[x0, x1, x2, x3, x4, x5, x6, x7, x8, x9, x10] t (0, 0))) :
    w.cell? ⟨b, 0, none⟩ = some x0 ∧ w.cell? ⟨b, 1, none⟩ = some x1 ∧ w.cell? ⟨b, 2, none⟩ = some x2 ∧ w.cell? ⟨b, 3, none⟩ = some x3 ∧ w.cell? ⟨b, 4, none⟩ = some x4 ∧ w.cell? ⟨b, 5, none⟩ = some x5 ∧ w.cell? ⟨b, 6, none⟩ = some x6 ∧ w.cell? ⟨b, 7, none⟩ = some x7 ∧ w.cell? ⟨b, 8, none⟩ = some x8 ∧ w.cell? ⟨b, 9, none⟩ = some x9 ∧ w.cell? ⟨b, 10, none⟩ = some x10 :=
  ⟨cell_of_row _ _ 0 _ _ _ h, cell_of_row _ _ 1 _ _ _ h, cell_of_row _ _ 2 _ _ _ h, cell_of_row _ _ 3 _ _ _ h, cell_of_row _ _ 4 _ _ _ h, cell_of_row _ _ 5 _ _ _ h, cell_of_row _ _ 6 _ _ _ h, cell_of_row _ _ 7 _ _ _ h, cell_of_row _ _ 8 _ _ _ h, cell_of_row _ _ 9 _ _ _ h, cell_of_row _ _ 10 _ _ _ h⟩
theorem u64_nat (z : Int) : ∃ g : Nat, IntKind.u64.wrap z = (g : Int) := by
  rw [IntKind.wrap_u64]
  exact Int.eq_ofNat_of_zero_le (by omega)
end Go.Proofs.YtabjpmkkigflmaaGreatDoor
