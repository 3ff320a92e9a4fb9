/-
  Layer 29: what is got of bytes, plainly.
-/
import Derived.Test.YtokafgleejcbgaaDoorDirN
import Derived.Test.YtokafgleejcbgaaDoorInB
namespace Go.Proofs.YtokafgleejcbgaaDoor
open Go.RowKit
set_option linter.unusedVariables false

def bytesU (l : List Int) : List UInt8 := l.map fun z => UInt8.ofNat z.toNat
theorem ints_bytesU (l : List Int) (h : IsB l) : ints29 (bytesU l) = l := by
  unfold ints29 bytesU
  rw [List.map_map]
  refine (List.map_congr_left (g := id) fun z hz => ?_).trans (List.map_id l)
  have := h z hz
  show ((UInt8.ofNat z.toNat).toNat : Int) = z
  rw [UInt8.toNat_ofNat_of_lt' (by show z.toNat < 256; omega)]
  omega
theorem bytesU_ints (x : List UInt8) : bytesU (ints29 x) = x := by
  unfold ints29 bytesU
  rw [List.map_map]
  refine (List.map_congr_left (g := id) fun z hz => ?_).trans (List.map_id x)
  show UInt8.ofNat ((z.toNat : Int).toNat) = z
  rw [Int.toNat_natCast]
  exact UInt8.ofNat_toNat
theorem bytesU_len (l : List Int) : (bytesU l).length = l.length := by simp [bytesU]
/-- An entry that lies at the head of bytes. -/
def rowE (b : List Int) : En := (bytesU ((b.drop 1).take (b.getD 0 0).toNat), (num ((b.drop 12).take 4) : Int))
def entsR : Nat → List Int → Option (List En)
  | 0, _ => some []
  | n + 1, b => if 11 < b.getD 0 0 then none else (entsR n (b.drop 16)).map (rowE b :: ·)
/-- What is got of bytes. -/
def gotE (b : List Int) : Int × List En :=
  if 512 < b.length then (17, []) else if b.length % 16 ≠ 0 then (3, []) else
  match entsR (b.length / 16) b with
  | none => (4, [])
  | some l => if chkE l = 0 ∧ bytEs l = b then (0, l) else (4, [])
/-- One entry that is got. -/
def gqE (s : ISt) : ISt × En := ((((s.upto 1 11).1.raw 11).1.get 4).1, (bytesU (((s.upto 1 11).1.raw 11).2.take (s.upto 1 11).2.toNat), (((s.upto 1 11).1.raw 11).1.get 4).2))
def gqsE : Nat → ISt → ISt × List En
  | 0, s => (s, [])
  | n + 1, s => ((gqE (gqsE n s).1).1, (gqsE n s).2 ++ [(gqE (gqsE n s).1).2])
theorem gqsE_len (n : Nat) (s : ISt) : (gqsE n s).2.length = n := by
  induction n with
  | zero => rfl
  | succ n ih => show ((gqsE n s).2 ++ [_]).length = n + 1; rw [List.length_append, ih]; rfl
theorem gqsE_shift (n : Nat) (s : ISt) : gqsE (n + 1) s = ((gqsE n (gqE s).1).1, (gqE s).2 :: (gqsE n (gqE s).1).2) := by
  induction n with
  | zero => rfl
  | succ n ih => rw [gqsE, ih]; rfl
theorem upto_err29 {s : ISt} (h : s.err ≠ 0) : s.upto 1 11 = (s, 0) := by
  unfold ISt.upto
  rw [if_neg (by omega)]
  have hr : s.raw 1 = (s, []) := by unfold ISt.raw; rw [if_neg h]
  rw [hr, if_neg h]
theorem upto_ok29 {b : List Int} (hB : IsB b) (h1 : 1 ≤ b.length) : (⟨b, 0⟩ : ISt).upto 1 11 = if 11 < b.getD 0 0 then (⟨[], 4⟩, 0) else (⟨b.drop 1, 0⟩, b.getD 0 0) := by
  unfold ISt.upto
  rw [if_neg (by omega)]
  have hr : (⟨b, 0⟩ : ISt).raw 1 = (⟨b.drop 1, 0⟩, b.take 1) := by
    unfold ISt.raw
    rw [if_pos rfl, if_neg (by omega), if_neg (by show ¬ (b.length : Int) < 1; omega)]
    rfl
  rw [hr]
  cases b with
  | nil => cases h1
  | cons x b =>
    have hx := hB x (by simp)
    have hn : ((num (List.take 1 (x :: b)) : Nat) : Int) = x := by
      show ((num [x] : Nat) : Int) = x
      have : num [x] = x.toNat := by simp [num]
      rw [this]
      omega
    simp only [if_true, hn]
    rfl
theorem gqE_err {s : ISt} (h : s.err ≠ 0) : gqE s = (s, ([], 0)) := by
  unfold gqE
  rw [upto_err29 h]
  have hr : s.raw 11 = (s, []) := by unfold ISt.raw; rw [if_neg h]
  simp only [hr]
  have hg : s.get 4 = (s, 0) := by
    unfold ISt.get
    rw [if_neg (by omega)]
    have hr : s.raw 4 = (s, []) := by unfold ISt.raw; rw [if_neg h]
    rw [hr]; rfl
  rw [hg]
  rfl
theorem gqE_bad {b : List Int} (hB : IsB b) (h1 : 1 ≤ b.length) (h : 11 < b.getD 0 0) : gqE ⟨b, 0⟩ = (⟨[], 4⟩, ([], 0)) := by
  unfold gqE
  rw [upto_ok29 hB h1, if_pos h]
  rfl
theorem gqE_ok {b : List Int} (hB : IsB b) (h1 : 16 ≤ b.length) (h : ¬ 11 < b.getD 0 0) : gqE ⟨b, 0⟩ = (⟨b.drop 16, 0⟩, rowE b) := by
  unfold gqE rowE
  rw [upto_ok29 hB (by omega), if_neg h]
  have hr : (⟨b.drop 1, 0⟩ : ISt).raw 11 = ((⟨b.drop 12, 0⟩ : ISt), (b.drop 1).take 11) := by
    unfold ISt.raw
    rw [if_pos rfl, if_neg (by omega), if_neg (by show ¬ ((b.drop 1).length : Int) < 11; rw [List.length_drop]; omega)]
    exact Prod.ext (congrArg (fun l => (⟨l, 0⟩ : ISt)) (List.drop_drop (l := b) (i := 11) (j := 1))) rfl
  simp only [hr]
  have hg : (⟨b.drop 12, 0⟩ : ISt).get 4 = ((⟨b.drop 16, 0⟩ : ISt), (num ((b.drop 12).take 4) : Int)) := by
    unfold ISt.get
    rw [if_neg (by omega)]
    have hr : (⟨b.drop 12, 0⟩ : ISt).raw 4 = (⟨b.drop 16, 0⟩, (b.drop 12).take 4) := by
      unfold ISt.raw
      rw [if_pos rfl, if_neg (by omega), if_neg (by show ¬ ((b.drop 12).length : Int) < 4; rw [List.length_drop]; omega)]
      exact Prod.ext (congrArg (fun l => (⟨l, 0⟩ : ISt)) (List.drop_drop (l := b) (i := 4) (j := 12))) rfl
    rw [hr]
  rw [hg]
  have h0 : 0 ≤ b.getD 0 0 := by
    cases b with
    | nil => decide
    | cons x b => exact (hB x (by simp)).1
  rw [List.take_take, Nat.min_eq_left (by omega)]
theorem isB_drop29 {b : List Int} (hB : IsB b) (n : Nat) : IsB (b.drop n) := fun z hz => hB z (List.mem_of_mem_drop hz)
theorem gqsE_err {s : ISt} (h : s.err ≠ 0) : ∀ n, (gqsE n s).1 = s
  | 0 => rfl
  | n + 1 => by show (gqE (gqsE n s).1).1 = s; rw [gqsE_err h n, gqE_err h]
/-- Where the reader stands. -/
theorem gqsE_state (k : Nat) : ∀ (b : List Int), IsB b → 16 * k ≤ b.length → (gqsE k ⟨b, 0⟩).1 = ⟨b.drop (16 * k), 0⟩ ∨ (gqsE k ⟨b, 0⟩).1.err ≠ 0 := by
  induction k with
  | zero => intro b _ _; exact .inl (by simp [gqsE])
  | succ k ih =>
    intro b hB hl
    rw [gqsE_shift]
    by_cases h : 11 < b.getD 0 0
    · rw [gqE_bad hB (by omega) h]
      exact .inr (by rw [gqsE_err (by decide)]; decide)
    · rw [gqE_ok hB (by omega) h]
      rcases ih (b.drop 16) (isB_drop29 hB 16) (by rw [List.length_drop]; omega) with h2 | h2
      · rw [List.drop_drop] at h2
        exact .inl (by rw [h2, show 16 + 16 * k = 16 * (k + 1) by omega])
      · exact .inr h2
theorem gqsE_ents (n : Nat) : ∀ (b : List Int), IsB b → b.length = 16 * n → (∀ l, entsR n b = some l → (gqsE n ⟨b, 0⟩).2 = l) ∧ (entsR n b = none → ∃ x ∈ (gqsE n ⟨b, 0⟩).2, x.1 = []) := by
  induction n with
  | zero => intro b _ _; exact ⟨fun l h => by injection h, fun h => by cases h⟩
  | succ n ih =>
    intro b hB hl
    rw [gqsE_shift, entsR]
    by_cases h : 11 < b.getD 0 0
    · rw [if_pos h, gqE_bad hB (by omega) h]
      exact ⟨(fun l h => by cases h), fun _ => ⟨([], 0), List.mem_cons_self, rfl⟩⟩
    · rw [if_neg h, gqE_ok hB (by omega) h]
      obtain ⟨h1, h2⟩ := ih (b.drop 16) (isB_drop29 hB 16) (by rw [List.length_drop]; omega)
      cases hr : entsR n (b.drop 16) with
      | none =>
        obtain ⟨x, hx, hx0⟩ := h2 hr
        exact ⟨(fun l h => by cases h), fun _ => ⟨x, List.mem_cons_of_mem _ hx, hx0⟩⟩
      | some m =>
        refine ⟨fun l h => ?_, fun h => by cases h⟩
        injection h with h
        rw [← h, ← h1 m hr]
/-- What the package tells is what is got. -/
theorem gotE_gq {b : List Int} (hB : IsB b) (h1 : ¬ 512 < b.length) (h2 : ¬ b.length % 16 ≠ 0) : gotE b = if chkE (gqsE (b.length / 16) ⟨b, 0⟩).2 = 0 ∧ bytEs (gqsE (b.length / 16) ⟨b, 0⟩).2 = b then (0, (gqsE (b.length / 16) ⟨b, 0⟩).2) else (4, []) := by
  unfold gotE
  rw [if_neg h1, if_neg h2]
  obtain ⟨q1, q2⟩ := gqsE_ents (b.length / 16) b hB (by omega)
  cases hr : entsR (b.length / 16) b with
  | none =>
    obtain ⟨x, hx, hx0⟩ := q2 hr
    rw [if_neg]
    intro hc
    have := ((chkE_zero hc.1).2.2 x hx).1.1.1
    rw [hx0] at this
    cases this
  | some l => rw [q1 l hr]
theorem upto_le29 (s : ISt) : 0 ≤ (s.upto 1 11).2 ∧ (s.upto 1 11).2 ≤ 11 := by
  unfold ISt.upto
  split
  · exact ⟨Int.le_refl _, (show (0 : Int) ≤ 11 by decide)⟩
  · split
    · split
      · exact ⟨Int.le_refl _, (show (0 : Int) ≤ 11 by decide)⟩
      · rename_i h; exact ⟨by show (0 : Int) ≤ (num _ : Int); omega, by show (num _ : Int) ≤ 11; omega⟩
    · exact ⟨Int.le_refl _, (show (0 : Int) ≤ 11 by decide)⟩
end Go.Proofs.YtokafgleejcbgaaDoor
