/-
  Commands that came in, in a slice.
-/
import Derived.Test.YtidhaofojcdbaaaBase
namespace Go.Proofs.Ytidhaofojcdbaaa
open Go.RowKit
set_option linter.unusedVariables false

structure CmQ where
  k : Int
  ch : Int
  ep : Int
  nd : Int
/-- A slice of commands that came in. -/
def CmR (w : World) (v : Value) (n : Nat) (it : Nat → CmQ) : Prop :=
  ∃ a cap, v = .slice a n cap ∧ n ≤ 9223372036854775807 ∧ (0 < n → ∃ b o, a = some ⟨b, o, none⟩ ∧ b < w.heap.size ∧ ∀ j, j < n → w.cell? ⟨b, o + j * 4, none⟩ = some (.int .i64 (it j).k) ∧
    w.cell? ⟨b, o + j * 4 + 1, none⟩ = some (.int .i64 (it j).ch) ∧ w.cell? ⟨b, o + j * 4 + 2, none⟩ = some (.int .u64 (it j).ep) ∧ w.cell? ⟨b, o + j * 4 + 3, none⟩ = some (.int .i64 (it j).nd) ∧ 0 ≤ (it j).ep)
theorem CmR.at_ {w w' : World} {a : Option Addr} {n cap j : Nat} {it : Nat → CmQ} (h : CmR w (.slice a n cap) n it) (hk : Kept NoB w w') (hj : j < n) : ∃ b o, a = some ⟨b, o, none⟩ ∧ w'.cell? ⟨b, o + j * 4, none⟩ = some (.int .i64 (it j).k) ∧
    w'.cell? ⟨b, o + j * 4 + 1, none⟩ = some (.int .i64 (it j).ch) ∧ w'.cell? ⟨b, o + j * 4 + 2, none⟩ = some (.int .u64 (it j).ep) ∧ w'.cell? ⟨b, o + j * 4 + 3, none⟩ = some (.int .i64 (it j).nd) ∧ 0 ≤ (it j).ep := by
  obtain ⟨a', cap', h1, h2, h3⟩ := h
  injection h1 with h1 _ _
  subst h1
  obtain ⟨b, o, ha, hb, hc⟩ := h3 (by omega)
  obtain ⟨e0, e1, e2, e3, e4⟩ := hc j hj
  exact ⟨b, o, ha, hk.cell (p := ⟨b, o + j * 4, none⟩) (fun h => h) e0, hk.cell (p := ⟨b, o + j * 4 + 1, none⟩) (fun h => h) e1, hk.cell (p := ⟨b, o + j * 4 + 2, none⟩) (fun h => h) e2, hk.cell (p := ⟨b, o + j * 4 + 3, none⟩) (fun h => h) e3, e4⟩
/-- One command's cells. -/
structure CmC (w : World) (b o : Nat) (k ch ep nd : Int) : Prop where
  c0 : w.cell? ⟨b, o, none⟩ = some (.int .i64 k)
  c1 : w.cell? ⟨b, o + 1, none⟩ = some (.int .i64 ch)
  c2 : w.cell? ⟨b, o + 2, none⟩ = some (.int .u64 ep)
  c3 : w.cell? ⟨b, o + 3, none⟩ = some (.int .i64 nd)
theorem CmC.kept {S : Nat → Prop} {w w' : World} {b o : Nat} {k ch ep nd : Int} (h : CmC w b o k ch ep nd) (hk : Kept S w w') (hs : ¬ S b) : CmC w' b o k ch ep nd :=
  ⟨hk.cell (p := ⟨b, o, none⟩) hs h.c0, hk.cell (p := ⟨b, o + 1, none⟩) hs h.c1, hk.cell (p := ⟨b, o + 2, none⟩) hs h.c2, hk.cell (p := ⟨b, o + 3, none⟩) hs h.c3⟩
theorem CmC.no {w w' : World} {b o : Nat} {k ch ep nd : Int} (h : CmC w b o k ch ep nd) (hk : Kept NoB w w') : CmC w' b o k ch ep nd := h.kept hk (fun h => h)
theorem CmR.one {w w' : World} {a : Option Addr} {n cap j : Nat} {it : Nat → CmQ} (h : CmR w (.slice a n cap) n it) (hk : Kept NoB w w') (hj : j < n) : ∃ b o k ch ep nd, a = some ⟨b, o, none⟩ ∧ CmC w' b (o + j * 4) k ch ep nd ∧ 0 ≤ ep := by
  obtain ⟨b, o, h1, h2, h3, h4, h5, h6⟩ := h.at_ hk hj
  exact ⟨b, o, _, _, _, _, h1, ⟨h2, h3, h4, h5⟩, h6⟩
end Go.Proofs.Ytidhaofojcdbaaa
