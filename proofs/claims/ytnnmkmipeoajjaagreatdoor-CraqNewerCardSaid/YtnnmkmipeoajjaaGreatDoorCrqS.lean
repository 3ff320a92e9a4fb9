/-
  CraqNewer: two stores in memory, the second behind the first.
-/
import Derived.Test.YtnnmkmipeoajjaaGreatDoorCrqR
namespace Go.Proofs.YtnnmkmipeoajjaaGreatDoor
open Go.RowKit
set_option linter.unusedVariables false
set_option linter.unusedSimpArgs false

structure Nw22 (w : World) (ga ma ta gb mb tb hi i : Nat) (d : Int) (sa sb : Sp) (Sa Sb : Nat → Prop) (wr : World) : Prop where
  A : StS wr Sa ga ma ta sa
  B : StS wr Sb gb mb tb sb
  dj : ∀ k, Sa k → ¬ Sb k
  la : ∀ k, Sa k → w.heap.size ≤ k ∧ k < wr.heap.size
  lb : ∀ k, Sb k → w.heap.size ≤ k ∧ k < wr.heap.size
  gra : Gr sa (i + 2)
  grb : Gr sb (i + 2)
  pr : Pre22 sa sb
  eq : i ≤ hi → sa = sb
  d0 : 0 ≤ d
  d1 : d ≤ sb.en
  ea : sa.en ≤ i + 2
  kp : Kept NoB w wr
theorem Nw22.no {w : World} {ga ma ta gb mb tb hi i : Nat} {d : Int} {sa sb : Sp} {Sa Sb : Nat → Prop} {wr w' : World} (h : Nw22 w ga ma ta gb mb tb hi i d sa sb Sa Sb wr) (hk : Kept NoB wr w') : Nw22 w ga ma ta gb mb tb hi i d sa sb Sa Sb w' :=
  ⟨h.A.no hk, h.B.no hk, h.dj, fun k hk2 => ⟨(h.la k hk2).1, Nat.lt_of_lt_of_le (h.la k hk2).2 hk.size⟩, fun k hk2 => ⟨(h.lb k hk2).1, Nat.lt_of_lt_of_le (h.lb k hk2).2 hk.size⟩, h.gra, h.grb, h.pr, h.eq, h.d0, h.d1, h.ea, h.kp.trans hk (fun _ _ h => h)⟩
/-- Half-way: the first store has taken the update. -/
theorem Nw22.one {w : World} {ga ma ta gb mb tb hi i : Nat} {d : Int} {sa sb : Sp} {Sa Sb : Nat → Prop} {wr w' : World} (h : Nw22 w ga ma ta gb mb tb hi i d sa sb Sa Sb wr) (hn : i ≤ 900) (u : Up) (hA : StS w' (fun k => Sa k ∨ (wr.heap.size ≤ k ∧ k < w'.heap.size)) ga ma ta (apSp sa u)) (hk : Kept Sa wr w') (hh : ¬ i < hi) :
    Nw22 w ga ma ta gb mb tb hi (i + 1) d (apSp sa u) sb (fun k => Sa k ∨ (wr.heap.size ≤ k ∧ k < w'.heap.size)) Sb w' := by
  have hs := hk.size
  have hs0 := h.kp.size
  refine ⟨hA, h.B.kept hk (fun k h1 h2 => h.dj k h2 h1), fun k h1 h2 => ?_, fun k h1 => ?_, fun k h1 => ?_, h.gra.ap (by omega) u, h.grb.up, h.pr.up h.gra.e0 u, fun h1 => absurd h1 (by omega), h.d0, h.d1, ?_, h.kp.trans hk (fun k hk2 h2 => by have := (h.la k h2).1; omega)⟩
  · rcases h1 with h1 | h1
    · exact h.dj k h1 h2
    · have := (h.lb k h2).2; omega
  · rcases h1 with h1 | h1
    · have := h.la k h1; omega
    · omega
  · have := h.lb k h1; omega
  · have := apSp_en sa u h.gra.e0
    have := h.ea
    omega
theorem Nw22.mid {w : World} {ga ma ta gb mb tb hi i : Nat} {d : Int} {sa sb : Sp} {Sa Sb : Nat → Prop} {wr w' : World} (h : Nw22 w ga ma ta gb mb tb hi i d sa sb Sa Sb wr) (hk : Kept Sa wr w') : StS w' Sb gb mb tb sb ∧ (∀ k, Sb k → w.heap.size ≤ k ∧ k < w'.heap.size) ∧ Kept NoB w w' := by
  have hs := hk.size
  refine ⟨h.B.kept hk (fun k h1 h2 => h.dj k h2 h1), fun k h1 => ?_, h.kp.trans hk (fun k hk2 h2 => by have := (h.la k h2).1; omega)⟩
  have := h.lb k h1; omega
theorem Nw22.both {w : World} {ga ma ta gb mb tb hi i : Nat} {d : Int} {sa sb : Sp} {Sa Sb : Nat → Prop} {wr w1 w' : World} (h : Nw22 w ga ma ta gb mb tb hi i d sa sb Sa Sb wr) (hn : i ≤ 900) (u : Up) (hA : StS w1 (fun k => Sa k ∨ (wr.heap.size ≤ k ∧ k < w1.heap.size)) ga ma ta (apSp sa u)) (hk : Kept Sa wr w1) (hh : i < hi)
    (hB : StS w' (fun k => Sb k ∨ (w1.heap.size ≤ k ∧ k < w'.heap.size)) gb mb tb (apSp sb u)) (hk2 : Kept Sb w1 w') :
    Nw22 w ga ma ta gb mb tb hi (i + 1) d (apSp sa u) (apSp sb u) (fun k => Sa k ∨ (wr.heap.size ≤ k ∧ k < w1.heap.size)) (fun k => Sb k ∨ (w1.heap.size ≤ k ∧ k < w'.heap.size)) w' := by
  have hs := hk.size
  have hs2 := hk2.size
  have hs0 := h.kp.size
  obtain ⟨hb1, hb2, hb3⟩ := h.mid hk
  obtain rfl := h.eq (by omega)
  have hen := apSp_en sa u h.gra.e0
  refine ⟨hA.kept hk2 (fun k h1 h2 => ?_), hB, fun k h1 h2 => ?_, fun k h1 => ?_, fun k h1 => ?_, h.gra.ap (by omega) u, h.grb.ap (by omega) u, Pre22.refl _, fun _ => rfl, h.d0, ?_, ?_, hb3.trans hk2 (fun k hk2 h2 => by have := (h.lb k h2).1; omega)⟩
  · rcases h1 with h1 | h1
    · exact h.dj k h1 h2
    · have := (h.lb k h2).2; omega
  · rcases h1 with h1 | h1
    · rcases h2 with h2 | h2
      · exact h.dj k h1 h2
      · have := (h.la k h1).2; omega
    · rcases h2 with h2 | h2
      · have := (h.lb k h2).2; omega
      · omega
  · rcases h1 with h1 | h1
    · have := h.la k h1; omega
    · omega
  · rcases h1 with h1 | h1
    · have := hb2 k h1; omega
    · omega
  · have := h.d1; omega
  · have := h.ea; omega
theorem Nw22.done {w : World} {ga ma ta gb mb tb hi i : Nat} {d : Int} {sa sb : Sp} {Sa Sb : Nat → Prop} {wr : World} (h : Nw22 w ga ma ta gb mb tb hi i d sa sb Sa Sb wr) (hh : i ≤ hi) : Nw22 w ga ma ta gb mb tb hi i sa.en sa sb Sa Sb wr := by
  have e := h.eq hh
  exact ⟨h.A, h.B, h.dj, h.la, h.lb, h.gra, h.grb, h.pr, h.eq, h.gra.e0, by rw [e]; exact Int.le_refl _, h.ea, h.kp⟩
theorem tmod22 {a m : Int} (h : 0 ≤ a) (hm : 0 < m) : ∃ t : Nat, a.tmod m = (t : Int) ∧ (t : Int) < m := by
  obtain ⟨t, ht⟩ := Int.eq_ofNat_of_zero_le (Int.emod_nonneg a (by omega : m ≠ 0))
  exact ⟨t, by rw [Int.tmod_eq_emod_of_nonneg h]; exact ht, by rw [← ht]; exact Int.emod_lt_of_pos a hm⟩
theorem Gr.dl {s : Sp} {n : Nat} (h : Gr s n) (k : Int) : (lastV (s.l k)).d.length ≤ 1000000 := by have := (h.lastq k).2; omega
theorem newS_any (w : World) : Calls Tryz.prog 25 #[] w fun e w' => ∃ g bm t S, e = .returned (.pointer (some ⟨g, 0, none⟩)) ∧ StS w' S g bm t s220 ∧ (∀ k, S k → w.heap.size ≤ k ∧ k < w'.heap.size) ∧ Kept NoB w w' := by
  refine (TNew_any w).mono ?_
  rintro e w1 ⟨g, bm, t, rfl, hs, hg, hbm, htt, hk⟩
  exact ⟨g, bm, t, fun k => w.heap.size ≤ k ∧ k < w1.heap.size, rfl, ⟨[], hs, fun k => rfl, rfl, (fun y h => by cases h), fun k h => ⟨(by
    rcases h with h | h | h | ⟨y, h, _⟩
    · omega
    · omega
    · omega
    · cases h), hs.bnd k h⟩⟩, fun k h => h, hk⟩
theorem fld_vers (r q : Int) (ua : Option Addr) (un uc : Nat) (w : World) : (Instr.field 75 (.agg #[.int .u64 r, .int .u64 q, .slice ua un uc]) 0).run Tryz.prog w = .ok (.int .u64 r) w := by kernel_rfl
end Go.Proofs.YtnnmkmipeoajjaaGreatDoor
