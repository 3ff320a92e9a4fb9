/-
  The table of checksums: halving a state, and (*crc.Table).compute.
-/
import Derived.Test.YtpcacndbagiajaaProg
import Derived.Test.YtpcacndbagiajaaBase
import Derived.WalkKit
import Derived.WalkSpells
import Derived.WalkLawsBesides
import Derived.RegionTactic
import Derived.BigRegion
import Derived.Deep.QuietTactic
import Derived.BigQuiet
import Derived.Deep.RegionHeld3
import Derived.Deep.RegionLaw
import Derived.Deep.DeepMust
import Derived.Lib.Hide
import Derived.Outline
import Derived.KernelRfl
import Derived.Laws.BitsAllLaws
namespace Go.Proofs.Ytpcacndbagiajaa
open Go.RowKit

/-- Block g alone. -/
def One (g : Nat) : Nat → Prop := fun k => k = g
theorem Kept.one {g : Nat} {a w : World} (h : Kept (One g) a w) (o : Nat) (u : Value) : Kept (One g) a (w.setCell ⟨g, o, none⟩ u) := h.setCell (p := ⟨g, o, none⟩) (.inl (by show g = g; rfl)) u

/-- A state behind one shift. -/
def half (s : Nat) : Nat := if s % 2 = 1 then s / 2 ^^^ 3988292384 else s / 2
def halves : Nat → Nat → Nat
  | 0, s => s
  | k + 1, s => half (halves k s)
theorem half_lt (s : Nat) (h : s < 4294967296) : half s < 4294967296 := by
  unfold half
  split
  · exact Nat.xor_lt_two_pow (n := 32) (by show s / 2 < 2 ^ 32; omega) (by decide)
  · omega
theorem halves_lt (k s : Nat) (h : s < 4294967296) : halves k s < 4294967296 := by
  induction k with
  | zero => exact h
  | succ k ih => exact half_lt _ ih
theorem and_one (s : Nat) (h : s < 4294967296) : bits BinOp.and IntKind.u32 (s : Int) 1 = ((s % 2 : Nat) : Int) := by
  have := u32_and_nat s 1 h (by decide)
  rw [show ((1 : Nat) : Int) = 1 from rfl] at this
  rw [this, Nat.and_one_is_mod]
theorem xor_poly (s : Nat) (h : s < 4294967296) : bits BinOp.xor IntKind.u32 ((s / 2 : Nat) : Int) 3988292384 = ((s / 2 ^^^ 3988292384 : Nat) : Int) := by
  have := u32_xor_nat (s / 2) 3988292384 (by omega) (by decide)
  rw [show ((3988292384 : Nat) : Int) = 3988292384 from rfl] at this
  exact this

/-- shifted: eight shifts. -/
theorem shifted_any (n : Nat) (w : World) (hn : n < 4294967296) : Calls Try.prog 84 #[.int .u32 n] w fun e w' => e = .returned (.int .u32 (halves 8 n)) ∧ w = w' := by
  go_enter Try.func84, Try.ntmps84
  go_wp2
  go_loop [0, 4] (fun s i => ∃ k : Nat, k ≤ 8 ∧ i = .int .i64 k ∧ s = .int .u32 (halves k n)) (fun _ i => 8 - (intOf i).toNat)
  case atStart => exact ⟨0, by omega, rfl, rfl⟩
  case round =>
    obtain ⟨k, hk, rfl, rfl⟩ := hrel
    have hlt := halves_lt k n hn
    obtain ⟨s, hs⟩ : ∃ s, s = halves k n := ⟨_, rfl⟩
    rw [← hs] at hlt ⊢
    have HS := Lib.hid hs
    clear hs
    by_cases hk8 : k < 8
    · have ha := and_one s hlt
      have hx := xor_poly s hlt
      have hdiv : ((s / 2 : Nat) : Int) = (s : Int) / 2 := by omega
      rw [hdiv] at hx
      have h0 : (0 : Int) ≤ (s : Int) := by omega
      by_cases hodd : s % 2 = 1
      · rw [hodd] at ha
        have HH := Lib.hid (show half s = s / 2 ^^^ 3988292384 from if_pos hodd)
        have HX := Lib.hid hx
        clear hodd hdiv hx
        go_wp2
        refine ⟨⟨k + 1, by omega, by go_num, ?_⟩, by simp [intOf]; omega⟩
        rw [HX.out, halves, ← HS.out, HH.out]
      · have he : s % 2 = 0 := by omega
        rw [he] at ha
        have HH := Lib.hid (show half s = s / 2 from if_neg hodd)
        clear hodd hdiv hx he
        go_wp2
        refine ⟨⟨k + 1, by omega, by go_num, ?_⟩, by simp [intOf]; omega⟩
        rw [halves, ← HS.out, HH.out]
        congr 1
    · obtain rfl : k = 8 := by omega
      go_wp2
      go_ret
      rw [HS.out]
      exact ⟨rfl, rfl⟩

/-- The table's number at i. -/
def tab (i : Nat) : Nat := halves 8 i
/-- The block g is a table; whether it was made. -/
def TabAt (w : World) (g : Nat) (made : Bool) : Prop :=
  ∃ cs : Array Value, w.heap[g]? = some (.cells cs 66 (0, 0)) ∧ cs.size = 260 ∧ cs[0]? = some (.int .u32 (if made then 1 else 0)) ∧ cs[1]? = some (.int .i32 0) ∧ (∃ x, cs[2]? = some x) ∧
    cs[3]? = some (.int .i64 (if made then 1 else 0)) ∧ ∀ i, i < 256 → cs[4 + i]? = some (.int .u32 (if made then (tab i : Int) else 0))

/-- What computing leaves in the block: the table's numbers, and one more in the count. -/
def Filled (w : World) (g : Nat) (d : Int) (k : Nat) : Prop :=
  ∃ cs : Array Value, w.heap[g]? = some (.cells cs 66 (0, 0)) ∧ cs.size = 260 ∧ cs[0]? = some (.int .u32 0) ∧ cs[1]? = some (.int .i32 1) ∧ (∃ x, cs[2]? = some x) ∧
    cs[3]? = some (.int .i64 d) ∧ (∀ i, i < 256 → ∃ x : Int, cs[4 + i]? = some (.int .u32 x)) ∧ ∀ i, i < k → cs[4 + i]? = some (.int .u32 (tab i))

theorem Filled.cell {w : World} {g : Nat} {d : Int} {k : Nat} (h : Filled w g d k) : (∀ i, i < 256 → ∃ x : Int, w.cell? ⟨g, 4 + i, none⟩ = some (.int .u32 x)) ∧ w.cell? ⟨g, 3, none⟩ = some (.int .i64 d) ∧ (∀ o, w.frozen? ⟨g, o, none⟩ = false) ∧ g < w.heap.size := by
  obtain ⟨cs, hh, _, _, _, _, h3, hx, _⟩ := h
  refine ⟨fun i hi => ?_, (cell_of_row w g 3 _ _ _ hh).trans h3, fun o => by simp [World.frozen?, hh], heap_lt hh⟩
  obtain ⟨x, hc⟩ := hx i hi
  exact ⟨x, (cell_of_row w g (4 + i) _ _ _ hh).trans hc⟩
theorem Filled.store {w : World} {g : Nat} {d : Int} {k : Nat} (h : Filled w g d k) (hk : k < 256) : Filled (w.setCell ⟨g, 4 + k, none⟩ (.int .u32 (tab k))) g d (k + 1) := by
  obtain ⟨cs, hh, hs, h0, h1, h2, h3, hx, ht⟩ := h
  have key : ∀ j, j ≠ 4 + k → (cs.setIfInBounds (4 + k) (.int .u32 (tab k)))[j]? = cs[j]? := fun j hj => by rw [Array.getElem?_setIfInBounds, if_neg (by omega)]
  have same : (cs.setIfInBounds (4 + k) (.int .u32 (tab k)))[4 + k]? = some (.int .u32 (tab k)) := by rw [Array.getElem?_setIfInBounds, if_pos rfl, if_pos (by omega)]
  refine ⟨cs.setIfInBounds (4 + k) (.int .u32 (tab k)), by simp [World.setCell, Array.getElem?_modify, hh], by simpa using hs, by rw [key 0 (by omega)]; exact h0, by rw [key 1 (by omega)]; exact h1, ?_, by rw [key 3 (by omega)]; exact h3, fun i hi => ?_, fun i hi => ?_⟩
  · obtain ⟨x, hx2⟩ := h2
    exact ⟨x, by rw [key 2 (by omega)]; exact hx2⟩
  · by_cases e : i = k
    · subst e
      exact ⟨_, same⟩
    · obtain ⟨x, hc⟩ := hx i hi
      exact ⟨x, by rw [key _ (by omega)]; exact hc⟩
  · by_cases e : i = k
    · subst e
      exact same
    · rw [key _ (by omega)]
      exact ht i (by omega)
theorem Filled.drew {w : World} {g : Nat} {d : Int} {k : Nat} (h : Filled w g d k) : Filled w.drew g d k := h
end Go.Proofs.Ytpcacndbagiajaa
