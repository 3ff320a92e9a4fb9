/-
  Votes: a row's cells.
-/
import Derived.Test.YtidhaofojcdbaaaAccO
namespace Go.Proofs.Ytidhaofojcdbaaa
open Go.RowKit
set_option linter.unusedVariables false

theorem fromV_all {L : List Vt} {f : Int} (h : ∀ v ∈ L, f ≤ v.s) : fromV L f = L := by
  unfold fromV
  rw [List.filter_eq_self]
  intro v hv
  simpa using h v hv
/-- A row's cells. -/
theorem VOwn.cells {B : Nat} {w : World} {v : Value} {L : List Vt} (h : VOwn B w v L) (j : Nat) (hj : j < L.length) :
    ∃ r c, v = .slice (some ⟨r, 0, none⟩) L.length c ∧ r < w.heap.size ∧ w.cell? ⟨r, j * 6, none⟩ = some (.int .i64 L[j].s) ∧ w.cell? ⟨r, j * 6 + 1, none⟩ = some (.int .u64 L[j].b) ∧ w.cell? ⟨r, j * 6 + 2, none⟩ = some (.int .i64 L[j].k) ∧
      w.cell? ⟨r, j * 6 + 3, none⟩ = some (.int .i64 L[j].ch) ∧ w.cell? ⟨r, j * 6 + 4, none⟩ = some (.int .u64 L[j].ep) ∧ w.cell? ⟨r, j * 6 + 5, none⟩ = some (.int .i64 L[j].nd) := by
  obtain ⟨r, cap, rfl, hB, hlt⟩ := World.ownsRow.form h (by omega)
  have hx : ∀ i, i < 6 → ∀ u, (vcs L[j])[i]? = some u → w.cell? ⟨r, j * 6 + i, none⟩ = some u := fun i hi u hu => by
    have := World.ownsRow.cells h (g := r) rfl (j * 6 + i) u (by rw [vcel_at L j i hj hi]; exact hu)
    have hadd : (⟨r, 0, none⟩ : Addr).add (j * 6 + i) = ⟨r, j * 6 + i, none⟩ := by unfold Addr.add; split <;> simp_all
    rw [← hadd]
    exact this
  exact ⟨r, cap, rfl, hlt, hx 0 (by omega) _ rfl, hx 1 (by omega) _ rfl, hx 2 (by omega) _ rfl, hx 3 (by omega) _ rfl, hx 4 (by omega) _ rfl, hx 5 (by omega) _ rfl⟩
end Go.Proofs.Ytidhaofojcdbaaa
