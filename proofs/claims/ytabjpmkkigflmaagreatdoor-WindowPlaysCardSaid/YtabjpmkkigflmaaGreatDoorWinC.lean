/-
  Package window: between.
-/
import Derived.Test.YtabjpmkkigflmaaGreatDoorWinB
import Derived.IntWalk
namespace Go.Proofs.YtabjpmkkigflmaaGreatDoor
open Go.RowKit
set_option linter.unusedVariables false
set_option linter.unusedSimpArgs false

/-- The blocks of S but one. -/
def But (S : Nat → Prop) (b : Nat) : Nat → Prop := fun k => S k ∧ k ≠ b
/-- A window in its block; what it holds, and their data, in other blocks of S. -/
structure WinH (w : World) (S : Nat → Prop) (b : Nat) (x : Wn) (h : Value) (ps : List (Up × Value)) : Prop where
  blk : w.heap[b]? = some (.cells #[h, .int .u64 x.low, .int .u64 x.en, .int .u64 x.done] 118 (0, 0))
  inb : S b
  held : HeldAt w (But S b) h ps
  same : ps.map Prod.fst = x.l
  data : DatO w (But S b) ps
  bound : ∀ k, S k → k < w.heap.size
def WinAt (w : World) (S : Nat → Prop) (b : Nat) (x : Wn) : Prop := ∃ h ps, WinH w S b x h ps
theorem WinH.kept {S T : Nat → Prop} {w w' : World} {b : Nat} {x : Wn} {h : Value} {ps : List (Up × Value)} (H : WinH w S b x h ps) (hk : Kept T w w') (hs : ∀ k, S k → ¬ T k) : WinH w' S b x h ps :=
  ⟨hk.heap (hs b H.inb) H.blk, H.inb, H.held.kept hk (fun k hk => hs k hk.1), H.same, H.data.kept17 hk (fun k _ _ _ hk => hs k hk.1), fun k hS => Nat.lt_of_lt_of_le (H.bound k hS) hk.size⟩
theorem WinH.no {S : Nat → Prop} {w w' : World} {b : Nat} {x : Wn} {h : Value} {ps : List (Up × Value)} (H : WinH w S b x h ps) (hk : Kept NoB w w') : WinH w' S b x h ps := H.kept hk (fun _ _ h => h)
theorem WinAt.kept {S T : Nat → Prop} {w w' : World} {b : Nat} {x : Wn} (H : WinAt w S b x) (hk : Kept T w w') (hs : ∀ k, S k → ¬ T k) : WinAt w' S b x := by
  obtain ⟨h, ps, H⟩ := H
  exact ⟨h, ps, H.kept hk hs⟩
theorem WinAt.no {S : Nat → Prop} {w w' : World} {b : Nat} {x : Wn} (H : WinAt w S b x) (hk : Kept NoB w w') : WinAt w' S b x := H.kept hk (fun _ _ h => h)
theorem WinH.len {S : Nat → Prop} {w : World} {b : Nat} {x : Wn} {h : Value} {ps : List (Up × Value)} (H : WinH w S b x h ps) : ps.length = x.l.length := by
  rw [← H.same, List.length_map]
theorem cells4w {w : World} {b : Nat} {x0 x1 x2 x3 : Value} {t : TypeId} (h : w.heap[b]? = some (.cells #[x0, x1, x2, x3] t (0, 0))) :
    w.cell? ⟨b, 0, none⟩ = some x0 ∧ w.cell? ⟨b, 1, none⟩ = some x1 ∧ w.cell? ⟨b, 2, none⟩ = some x2 ∧ w.cell? ⟨b, 3, none⟩ = some x3 :=
  ⟨cell_of_row _ _ 0 _ _ _ h, cell_of_row _ _ 1 _ _ _ h, cell_of_row _ _ 2 _ _ _ h, cell_of_row _ _ 3 _ _ _ h⟩
/-- What between tells: a part of the slice at its place, with no room. -/
def BetE (a : Option Addr) (f t : Nat) (w : World) (e : Ending) (w' : World) : Prop :=
  ∃ a', e = .returned (.slice a' (t - f) (t - f)) ∧ (f < t → a' = a.map (·.add (f * 7))) ∧ (a' = none → a = none) ∧ Kept NoB w w'
set_option maxRecDepth 100000 in
set_option maxHeartbeats 1000000 in
theorem between_any (w : World) (b : Nat) (a : Option Addr) (n c lo f t : Nat) (x2 x3 : Value) (blk : w.heap[b]? = some (.cells #[.slice a n c, .int .u64 lo, x2, x3] 118 (0, 0))) (hft : f ≤ t) (htc : t ≤ c) (hcm : c ≤ maxLen) (htop : lo + t ≤ 18446744073709551615) :
    Calls Tryz.prog 81 #[.pointer (some ⟨b, 0, none⟩), .int .u64 (lo + f : Nat), .int .u64 (lo + t : Nat)] w (BetE a f t w) := by
  obtain ⟨c0, c1, c2, c3⟩ := cells4w blk
  unfold maxLen at hcm
  have hwf : IntKind.u64.wrap (((lo + f : Nat) : Int) - (lo : Int)) = (f : Int) := by rw [show ((lo + f : Nat) : Int) - (lo : Int) = (f : Int) by omega]; exact IntWalk.u64_in _ (by omega)
  have hwt : IntKind.u64.wrap (((lo + t : Nat) : Int) - (lo : Int)) = (t : Int) := by rw [show ((lo + t : Nat) : Int) - (lo : Int) = (t : Int) by omega]; exact IntWalk.u64_in _ (by omega)
  have k1 : (f : Int) ≤ (t : Int) := by omega
  have k2 : (t : Int) ≤ (c : Int) := by omega
  obtain ⟨F, hF⟩ : ∃ F : Int, F = ((lo + f : Nat) : Int) := ⟨_, rfl⟩
  obtain ⟨T, hT⟩ : ∃ T : Int, T = ((lo + t : Nat) : Int) := ⟨_, rfl⟩
  rw [← hF] at hwf ⊢
  rw [← hT] at hwt ⊢
  have c0n : ∀ m, (w.drewN m).cell? ⟨b, 0, none⟩ = some (.slice a n c) := fun _ => c0
  clear hF hT htop blk
  go_enter Tryz.func81, Tryz.ntmps81
  go_wp2_with fail
  go_quiet (fail)
  all_goals go_wp2
  · go_ret
    exact ⟨a, (by first | rfl | simp), (fun h => absurd h (Nat.lt_irrefl _)), (fun h => h), (Kept.refl _ _).drewN _⟩
  · go_ret
    exact ⟨_, rfl, (fun _ => rfl), (fun h => by cases a <;> simp at h ⊢), (Kept.refl _ _).drewN _⟩
theorem BetE.none {a : Option Addr} {f : Nat} {w w' : World} {e : Ending} (h : BetE a f f w e w') : ∃ a', e = .returned (.slice a' 0 0) ∧ Kept NoB w w' := by
  obtain ⟨a', h1, _, _, h2⟩ := h
  rw [Nat.sub_self] at h1
  exact ⟨a', h1, h2⟩
end Go.Proofs.YtabjpmkkigflmaaGreatDoor
