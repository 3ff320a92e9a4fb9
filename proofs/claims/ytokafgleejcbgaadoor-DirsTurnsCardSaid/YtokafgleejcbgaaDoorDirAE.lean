/-
  Layer 29: Add of the package.
-/
import Derived.Test.YtokafgleejcbgaaDoorDirAD
namespace Go.Proofs.YtokafgleejcbgaaDoor
open Go.RowKit
set_option linter.unusedVariables false

theorem ent_add1 : Enters29 22 := fun args w => by kernel_rfl
/-- Does an entry stand behind that name? -/
def beh29 (n : List UInt8) (y : En) : Bool := !leq29 y.1 n
theorem add1_any (x : List UInt8) (y : Int) (n : List UInt8) (m : Int) (bx : Nat) (w : World) (h : w.heap[bx]? = some (.cells #[.string ⟨n.toArray⟩, .int .i64 m] 32 (0, 0))) :
    Calls Tryd.prog 22 #[.agg #[.string ⟨x.toArray⟩, .int .i64 y], .pointer (some ⟨bx, 0, none⟩)] w fun e w' => e = .returned (.bool (beh29 n (x, y))) ∧ Kept NoB w w' := by
  have hk := (Kept.refl NoB w).alloc (.cells #[.string ⟨x.toArray⟩, .int .i64 y] 32)
  have HK := Lib.hid hk
  have hb := hk.heap (fun h => h) h
  obtain ⟨c0, c1⟩ := cell2_29 (heap_alloc_new w (.cells #[.string ⟨x.toArray⟩, .int .i64 y] 32))
  obtain ⟨d0, d1⟩ := cell2_29 hb
  have HR : Hid (beh29 n (x, y) = (!Op.bytesLess (⟨x.toArray⟩ : ByteArray).toList (⟨n.toArray⟩ : ByteArray).toList && !(⟨x.toArray⟩ : ByteArray).toList == (⟨n.toArray⟩ : ByteArray).toList)) := Lib.hid (by rw [toL29, toL29]; unfold beh29 leq29; rw [Bool.not_or])
  obtain ⟨R, hR⟩ : ∃ R, R = beh29 n (x, y) := ⟨_, rfl⟩
  rw [← hR] at HR ⊢
  obtain ⟨sx, hsx⟩ : ∃ s : ByteArray, s = ⟨x.toArray⟩ := ⟨_, rfl⟩
  obtain ⟨sn, hsn⟩ : ∃ s : ByteArray, s = ⟨n.toArray⟩ := ⟨_, rfl⟩
  rw [← hsx] at HR HK c0 c1 d0 ⊢
  rw [← hsn] at HR d0
  clear hk hb h hR hsx hsn d1
  go_enter Tryd.func22, Tryd.ntmps22
  go_wp2
  go_ret
  exact ⟨by rw [HR.out]; rfl, HK.out⟩
/-- The program's place is the chapter's. -/
theorem idx_aft29 {x : List UInt8} {l : List En} (hn : ∀ p ∈ l, p.1 ≠ x) : (idxE (beh29 x) l = -1 ∧ aftE x l = l.length) ∨ (idxE (beh29 x) l = (aftE x l : Int) ∧ aftE x l < l.length) := by
  have hp : ∀ p ∈ l, beh29 x p = !Op.bytesLess p.1 x := fun p hp => by
    unfold beh29 leq29
    rw [beq_eq_false_iff_ne.2 (hn p hp), Bool.or_false]
  have hf : l.findIdx (beh29 x) = aftE x l := by
    unfold aftE
    clear hn
    induction l with
    | nil => rfl
    | cons y l ih => rw [List.findIdx_cons, List.findIdx_cons, hp y (by simp), ih (fun p h => hp p (by simp [h]))]
  unfold idxE
  by_cases ha : l.any (beh29 x) = true
  · rw [if_pos ha, hf]
    exact .inr ⟨rfl, by rw [← hf]; exact List.findIdx_lt_length_of_exists (by simpa using List.any_eq_true.1 ha)⟩
  · rw [if_neg ha]
    refine .inl ⟨rfl, ?_⟩
    rw [← hf]
    refine List.findIdx_eq_length.2 (fun p hp => ?_)
    have := List.any_eq_false.1 (Bool.eq_false_iff.2 ha) p hp
    simpa using this
end Go.Proofs.YtokafgleejcbgaaDoor
