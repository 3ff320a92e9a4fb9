/-
  A slice of items (or of asks) that came in: what the walk is told of it.
-/
import Derived.Test.YtgkkiijoblphfaaPut
namespace Go.Proofs.Ytgkkiijoblphfaa
open Go.RowKit

/-- The value is a slice of n items. -/
def ItsAt (w : World) (v : Value) (n : Nat) (it : Nat → Itm) : Prop :=
  ∃ a cap, v = .slice a n cap ∧ n ≤ 9223372036854775807 ∧ (0 < n → ∃ b o, a = some ⟨b, o, none⟩ ∧ b < w.heap.size ∧ ∀ j, j < n → ∃ bv, w.cell? ⟨b, o + j * 4, none⟩ = some (.int .i64 (it j).kind) ∧
    w.cell? ⟨b, o + j * 4 + 1, none⟩ = some (.int .u64 (it j).n) ∧ w.cell? ⟨b, o + j * 4 + 2, none⟩ = some (.int .i64 (it j).width) ∧ w.cell? ⟨b, o + j * 4 + 3, none⟩ = some bv ∧
    BSl w (fun k => k < w.heap.size) bv (it j).b ∧ Hid ((it j).n < 18446744073709551616))

theorem emit_len (s : OSt) (e : Int) (l : List Int) : (s.emit e l).bs.length ≤ s.bs.length + l.length := by
  unfold OSt.emit
  split
  · split
    · split
      · simp
      · simp
    · simp
  · omega
theorem Itm.bytes_len (x : Itm) : x.bytes.length ≤ 70 := by
  unfold Itm.bytes
  split
  · unfold putBytes
    split
    · rename_i h
      rw [be_len]
      unfold putErr at h
      split at h
      · cases h
      · omega
    · simp
  · split
    · rw [List.length_take]; omega
    · split
      · rw [List.length_append, be_len, List.length_take]; omega
      · simp
theorem Itm.err_lt (x : Itm) : 0 ≤ x.err ∧ x.err < 100 := by
  unfold Itm.err putErr
  split
  · split
    · exact ⟨by decide, by decide⟩
    · split
      · exact ⟨by decide, by decide⟩
      · exact ⟨by decide, by decide⟩
  · exact ⟨by decide, by decide⟩

/-- A question: its kind, its width, its bound. -/
structure Ask' where
  kind : Int
  width : Int
  most : Int
/-- The value is a slice of n questions. -/
def AksAt (w : World) (v : Value) (n : Nat) (it : Nat → Ask') : Prop :=
  ∃ a cap, v = .slice a n cap ∧ n ≤ 9223372036854775807 ∧ (0 < n → ∃ b o, a = some ⟨b, o, none⟩ ∧ b < w.heap.size ∧ ∀ j, j < n → w.cell? ⟨b, o + j * 3, none⟩ = some (.int .i64 (it j).kind) ∧
    w.cell? ⟨b, o + j * 3 + 1, none⟩ = some (.int .i64 (it j).width) ∧ w.cell? ⟨b, o + j * 3 + 2, none⟩ = some (.int .u64 (it j).most) ∧ 0 ≤ (it j).most ∧ (it j).width ≤ 9223372036854775807)
end Go.Proofs.Ytgkkiijoblphfaa
