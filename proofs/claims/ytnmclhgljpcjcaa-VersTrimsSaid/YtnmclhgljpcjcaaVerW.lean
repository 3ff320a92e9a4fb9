/-
  What trimming leaves, plainly (P15.4); the versions of VersTrims.
-/
import Derived.Test.YtnmclhgljpcjcaaVerA
namespace Go.Proofs.Ytnmclhgljpcjcaa
open Go.RowKit
set_option linter.unusedVariables false

theorem cnt_mono {l : List Vn} (h : Asc l) {a b : Int} (hab : a ≤ b) : cnt l a ≤ cnt l b := by
  rcases Nat.lt_or_ge (cnt l b) (cnt l a) with hlt | hge
  · exfalso
    have hle := cnt_le l a
    have h1 := (cnt_spec h a (cnt l b) (by omega)).2 hlt
    have h2 := (cnt_spec h b (cnt l b) (by omega)).1 (by omega)
    omega
  · exact hge
theorem cnt_drop {l : List Vn} (h : Asc l) (d : Int) (n : Nat) (hn : n ≤ cnt l d) : cnt (l.drop n) d = cnt l d - n := by
  have hle := cnt_le l d
  refine cnt_of (h.drop n) (by rw [List.length_drop]; omega) (fun i hi => ?_) (fun i h1 h2 => ?_)
  · rw [nthV_drop]
    exact (cnt_spec h d (n + i) (by omega)).2 (by omega)
  · rw [List.length_drop] at h2
    rw [nthV_drop]
    have := (cnt_spec h d (n + i) (by omega)).1
    by_cases hge : (nthV l (n + i)).q ≤ d
    · have := this hge; omega
    · omega
theorem trimV_last {l : List Vn} (h : Asc l) (d : Int) : lastV (trimV l d) = lastV l := by
  have hle := cnt_le l d
  unfold trimV trimN
  unfold lastV
  rw [List.length_drop, nthV_drop]
  by_cases hc : cnt l d = 0
  · rw [hc]; simp
  · congr 1
    omega
theorem trimV_clean {l : List Vn} (h : Asc l) {d e : Int} (hde : d ≤ e) : cleanV (trimV l d) e = cleanV l e := by
  have hm := cnt_mono h hde
  have hle := cnt_le l d
  unfold trimV trimN
  have hc := cnt_drop h e (cnt l d - 1) (by omega)
  unfold cleanV
  rw [hc]
  by_cases h0 : cnt l e = 0
  · rw [if_pos (by omega), if_pos h0]
  · rw [if_neg (by omega), if_neg h0, nthV_drop]
    congr 1
    omega
theorem trimV_dirty {l : List Vn} (h : Asc l) (d e : Int) : dirtyB (trimV l d) e = dirtyB l e := by
  unfold dirtyB
  rw [trimV_last h]
theorem trimV_again {l : List Vn} (h : Asc l) (d : Int) : trimN (trimV l d) d = 0 := by
  have hle := cnt_le l d
  unfold trimV trimN
  rw [cnt_drop h d (cnt l d - 1) (by omega)]
  omega
/-- The Seq behind k gaps. -/
def seqG (gs : List Int) (k : Nat) : Int := (gs.take k).foldl (fun s g => s + 1 + g) 0
theorem seqG_succ {gs : List Int} {k : Nat} (h : k < gs.length) : seqG gs (k + 1) = seqG gs k + 1 + gs.getD k 0 := by
  unfold seqG
  rw [List.take_succ_eq_append_getElem h, List.foldl_append]
  rw [List.getD_eq_getElem?_getD, List.getElem?_eq_getElem h]
  rfl
theorem seqG_bd {gs : List Int} (hB : IsB gs) (k : Nat) (hk : k ≤ gs.length) : (k : Int) ≤ seqG gs k ∧ seqG gs k ≤ 256 * k := by
  induction k with
  | zero => exact ⟨Int.le_refl _, Int.le_refl _⟩
  | succ k ih =>
    have h1 := ih (by omega)
    rw [seqG_succ (by omega)]
    have h2 := hB.getD k
    constructor <;> omega
def verG (first : Int) (gs : List Int) (k : Nat) : Vn := ⟨first + k, seqG gs (k + 1), [gs.getD k 0]⟩
/-- The versions behind k rounds. -/
def versG (first : Int) (gs : List Int) (k : Nat) : List Vn := (List.range k).map (verG first gs)
theorem versG_succ (first : Int) (gs : List Int) (k : Nat) : versG first gs (k + 1) = versG first gs k ++ [verG first gs k] := by
  unfold versG
  rw [List.range_succ, List.map_append]
  rfl
theorem versG_len (first : Int) (gs : List Int) (k : Nat) : (versG first gs k).length = k := by unfold versG; simp
theorem versG_put {first : Int} {gs : List Int} (hB : IsB gs) (h0 : 0 < first) {k : Nat} (hk : k < gs.length) : putXV (versG first gs k) (verG first gs k) = 0 := by
  have hs := seqG_bd hB k (by omega)
  have hs1 := seqG_succ hk
  have hg := hB.getD k
  unfold putXV
  rw [if_neg (by show ¬ 2048 < ([gs.getD k 0] : List Int).length; simp), if_neg (by show ¬ (first + k = 0 ∨ seqG gs (k + 1) = 0); omega), if_neg]
  rintro ⟨hp, hn⟩
  refine hn ?_
  rw [versG_len] at hp
  obtain ⟨j, rfl⟩ : ∃ j, k = j + 1 := ⟨k - 1, by omega⟩
  rw [versG_succ, lastV_app]
  show first + ((j + 1 : Nat) : Int) = first + (j : Int) + 1 ∧ seqG gs (j + 1) < seqG gs (j + 1 + 1)
  constructor <;> omega
theorem versG_add {first : Int} {gs : List Int} (hB : IsB gs) (h0 : 0 < first) {k : Nat} (hk : k < gs.length) : putLV (versG first gs k) (verG first gs k) = versG first gs (k + 1) := by
  unfold putLV
  rw [versG_put hB h0 hk, if_pos rfl, versG_succ]
end Go.Proofs.Ytnmclhgljpcjcaa
