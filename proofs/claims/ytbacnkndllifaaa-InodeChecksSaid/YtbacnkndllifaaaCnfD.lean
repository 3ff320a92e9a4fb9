/-
  Configurations, in plain words: one order, one in both; with which they begin; whether two lists are the same.
-/
import Derived.Test.YtbacnkndllifaaaCnfC
namespace Go.Proofs.Ytbacnkndllifaaa
set_option linter.unusedVariables false

/-- Is a number in both? -/
def meetB (a b : List Int) : Bool := a.any fun x => decide (x ∈ b)
theorem meet_of {a b : List Int} {x : Int} (h1 : x ∈ a) (h2 : x ∈ b) : meetB a b = true := List.any_eq_true.2 ⟨x, h1, by simpa using h2⟩
theorem meet_no {a b : List Int} (h : ∀ k, k < a.length → a.getD k 0 ∉ b) : meetB a b = false := by
  unfold meetB
  rw [List.any_eq_false]
  intro x hx
  obtain ⟨k, hk, rfl⟩ := List.getElem_of_mem hx
  have := h k hk
  rw [getD_at hk] at this
  simpa using this
/-- Where one stands in the new list behind k of the old one. -/
def posP (p : Int → Bool) (a : List Int) (k : Nat) : Nat := ((a.take k).filter p).length
theorem posP_succ (p : Int → Bool) {a : List Int} {k : Nat} (h : k < a.length) : posP p a (k + 1) = posP p a k + if p (a.getD k 0) then 1 else 0 := by
  unfold posP
  rw [take_one h, List.filter_append, List.length_append]
  generalize a.getD k 0 = x
  cases hp : p x <;> simp [hp]
theorem posP_le (p : Int → Bool) (a : List Int) (k : Nat) : posP p a k ≤ (a.filter p).length := by
  unfold posP
  exact (List.Sublist.filter p (List.take_sublist k a)).length_le
theorem posP_at (p : Int → Bool) {a ex : List Int} {k : Nat} (h : k < a.length) (hp : p (a.getD k 0) = true) : posP p a k < (a.filter p ++ ex).length ∧ (a.filter p ++ ex).getD (posP p a k) 0 = a.getD k 0 := by
  have hs : a.filter p = (a.take k).filter p ++ (a.getD k 0 :: (a.drop (k + 1)).filter p) := by
    have e : a = a.take k ++ (a.getD k 0 :: a.drop (k + 1)) := by
      rw [getD_at h, ← List.drop_eq_getElem_cons h, List.take_append_drop]
    have := congrArg (List.filter p) e
    rw [List.filter_append, List.filter_cons, if_pos hp] at this
    exact this
  have hl : posP p a k = ((a.take k).filter p).length := rfl
  rw [hs, hl]
  refine ⟨by simp, ?_⟩
  rw [List.getD_eq_getElem?_getD, List.append_assoc, List.getElem?_append_right (Nat.le_refl _)]
  simp
theorem ord_mem {p : Int → Bool} {a ex : List Int} (hex : ∀ x ∈ ex, x ∉ a) {x : Int} (hx : x ∈ a) : decide (x ∈ a.filter p ++ ex) = p x := by
  cases hp : p x with
  | true => exact decide_eq_true (List.mem_append_left _ (List.mem_filter.2 ⟨hx, hp⟩))
  | false =>
    refine decide_eq_false fun h => ?_
    rcases List.mem_append.1 h with h | h
    · have := (List.mem_filter.1 h).2
      rw [hp] at this
      cases this
    · exact hex x h hx
theorem ord_end {p : Int → Bool} {a ex : List Int} (he : ex.length ≤ 1) : (a.filter p ++ ex).length ≤ posP p a a.length + 1 := by
  unfold posP
  rw [List.take_length, List.length_append]
  omega
/-- Whether two configurations, two lists of them, are the same. -/
def sameC (a b : Cf) : Bool := decide (a = b)
theorem nthC_ext {a b : List Cf} (hl : a.length = b.length) (h : ∀ i, i < a.length → nthC a i = nthC b i) : a = b := by
  refine List.ext_getElem hl fun i h1 h2 => ?_
  have := h i h1
  rw [nthC_at h1, nthC_at h2] at this
  exact this
/-- The configurations with which everything begins. -/
def beg1 (per chain : Nat) : Cf := ⟨(chain : Nat), 1, (List.range per).map fun (k : Nat) => ((chain * per + k + 1 : Nat) : Int), false, 0⟩
def begL (chains per : Nat) : List Cf := (List.range chains).map (beg1 per)
theorem begL_len (chains per : Nat) : (begL chains per).length = chains := by simp [begL]
theorem begL_nth {chains per i : Nat} (h : i < chains) : nthC (begL chains per) i = beg1 per i := by
  rw [nthC_at (by rw [begL_len]; exact h)]
  simp [begL]
theorem beg1_mem {per chain : Nat} {x : Int} : x ∈ (beg1 per chain).mem ↔ ∃ k, k < per ∧ x = ((chain * per + k + 1 : Nat) : Int) := by
  have e : (beg1 per chain).mem = (beg1 per chain).ns := if_pos rfl
  rw [e]
  unfold beg1
  simp only [List.mem_map, List.mem_range]
  constructor
  · rintro ⟨k, hk, rfl⟩; exact ⟨k, hk, rfl⟩
  · rintro ⟨k, hk, rfl⟩; exact ⟨k, hk, rfl⟩
theorem begL_all {chains per : Nat} (h1 : 1 ≤ chains) (h4 : chains ≤ 4) (p1 : 1 ≤ per) (p5 : per ≤ 5) : AllC (begL chains per) := by
  refine apart_all (by rw [begL_len]; exact h1) (by rw [begL_len]; exact h4) (fun i hi => ?_) (fun i j x hij hj hx hy => ?_)
  · rw [begL_len] at hi
    rw [begL_nth hi]
    have hmul : i * per ≤ 3 * 5 := Nat.mul_le_mul (by omega) p5
    refine ⟨⟨by show (0 : Int) ≤ (i : Int); omega, by show (i : Int) ≤ 3; omega, by show (1 : Int) ≤ 1; omega, by simp [beg1]; omega, by simp [beg1]; omega, (fun hf => absurd hf (by simp [beg1])), ?_, ?_⟩, rfl⟩
    · intro x hx
      obtain ⟨k, hk, rfl⟩ := beg1_mem.1 hx
      omega
    · have e : (beg1 per i).mem = (beg1 per i).ns := if_pos rfl
      rw [e]
      unfold beg1
      refine List.Pairwise.map _ (fun a b hab => ?_) List.nodup_range
      show ((i * per + a + 1 : Nat) : Int) ≠ ((i * per + b + 1 : Nat) : Int)
      intro h
      exact hab (by omega)
  · rw [begL_len] at hj
    rw [begL_nth (by omega)] at hx
    rw [begL_nth hj] at hy
    obtain ⟨k, hk, rfl⟩ := beg1_mem.1 hx
    obtain ⟨m, hm, he⟩ := beg1_mem.1 hy
    have h1 : (i + 1) * per ≤ j * per := Nat.mul_le_mul_right _ hij
    rw [Nat.add_mul] at h1
    omega
end Go.Proofs.Ytbacnkndllifaaa
