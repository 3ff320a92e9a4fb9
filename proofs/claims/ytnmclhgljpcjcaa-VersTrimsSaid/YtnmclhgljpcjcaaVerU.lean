/-
  spoil of layer 15; the walk of VersOwn.
-/
import Derived.Test.YtnmclhgljpcjcaaVerT
namespace Go.Proofs.Ytnmclhgljpcjcaa
open Go.RowKit
set_option linter.unusedVariables false
set_option linter.unusedSimpArgs false

def Nums15 (w : World) (b n : Nat) : Prop := ∃ cs, w.heap[b]? = some (.cells cs 5 (0, 0)) ∧ ∀ j, j < n → ∃ x, cs[j]? = some (Value.int .u8 x)
theorem Nums15.set {w : World} {b n : Nat} (h : Nums15 w b n) (i : Nat) (y : Int) : Nums15 (w.setCell ⟨b, i, none⟩ (.int .u8 y)) b n := by
  obtain ⟨cs, h1, h2⟩ := h
  refine ⟨_, blkV_set h1 i _, fun j hj => ?_⟩
  obtain ⟨x, hx⟩ := h2 j hj
  by_cases e : i = j
  · subst e
    have hlt : i < cs.size := by
      rcases Nat.lt_or_ge i cs.size with h | h
      · exact h
      · rw [Array.getElem?_eq_none h] at hx; cases hx
    exact ⟨y, by simp [hlt]⟩
  · exact ⟨x, by rw [Array.getElem?_setIfInBounds_ne e]; exact hx⟩
theorem Own.nums {w : World} {F : Nat → Prop} {a : Option Addr} {c : Nat} {l : List Int} (h : Own w F (.slice a l.length c) l) (hp : 0 < l.length) : ∃ b, a = some ⟨b, 0, none⟩ ∧ F b ∧ Nums15 w b l.length := by
  rcases h.2.1.2 with ⟨hv, h0⟩ | ⟨r, cap, cur, hv, hb, hr, hc, hm, hs, ht⟩
  · omega
  · injection hv with hv _ _
    subst hv
    refine ⟨r, rfl, h.2.2 r rfl, cur, hr, fun j hj => ?_⟩
    have hj' := congrArg (fun z => z[j]?) ht
    simp only [List.getElem?_take, List.getElem?_map] at hj'
    rw [if_pos (by omega), Array.getElem?_toList, List.getElem?_eq_getElem hj] at hj'
    exact ⟨_, hj'⟩
def SpRel15 (w : World) (F : Nat → Prop) (b n : Nat) (iv : Value) (wr : World) : Prop := ∃ i : Nat, iv = .int .i64 i ∧ i ≤ n ∧ (0 < n → Nums15 wr b n) ∧ Kept F w wr
theorem spoil15 (w : World) (F : Nat → Prop) (v : Value) (l : List Int) (h : Own w F v l) (hl : l.length ≤ 1000000) : Calls Try.prog 37 #[v] w fun e w' => e = .returned (.tuple #[]) ∧ Kept F w w' := by
  obtain ⟨a, c, rfl⟩ := own_form h.2.1
  obtain ⟨b, hb⟩ : ∃ b, 0 < l.length → a = some ⟨b, 0, none⟩ ∧ F b ∧ Nums15 w b l.length := by
    by_cases hp : 0 < l.length
    · obtain ⟨b, hb⟩ := h.nums hp
      exact ⟨b, fun _ => hb⟩
    · exact ⟨0, fun h => absurd h hp⟩
  have HB := Lib.hid hb
  have H0 : Hid (SpRel15 w F b l.length (.int .i64 0) w) := Lib.hid ⟨0, rfl, Nat.zero_le _, fun hp => (hb hp).2.2, Kept.refl _ _⟩
  have hlm : (l.length : Int) ≤ 1000000 := by omega
  clear h hb
  go_enter Try.func37, Try.ntmps37
  go_wp2
  go_loopw [2] (SpRel15 w F b l.length) (fun i _ => l.length - (RowKit.intOf i).toNat)
  case atStart => exact H0.out
  case round =>
    obtain ⟨i, rfl, hi, hnum, hk⟩ := hrel
    have hi0 : (0 : Int) ≤ (i : Int) := by omega
    have HNU := Lib.hid hnum
    have HK := Lib.hid hk
    clear hnum hk
    by_cases hlt : i < l.length
    · have hi1 : (i : Int) < (l.length : Int) := by omega
      obtain ⟨rfl, hF, _⟩ := HB.out (by omega)
      have hN := HNU.out (by omega)
      have HN := Lib.hid hN
      obtain ⟨cs, hr, hx⟩ := hN
      obtain ⟨x, hx⟩ := hx i hlt
      have hcell : wr.cell? ⟨b, i, none⟩ = some (.int .u8 x) := by rw [cell_of_row _ _ i _ _ _ hr]; exact hx
      have hfz := blkV_frozen hr i
      have HF := Lib.hid hF
      clear hr hx hF
      go_wp2
      exact ⟨⟨i + 1, by go_num, by omega, fun _ => HN.out.set i _, HK.out.setCell (p := ⟨b, i, none⟩) (.inl HF.out) _⟩, by simp [RowKit.intOf]; omega⟩
    · go_wp2
      go_end0
      exact ⟨rfl, HK.out⟩
end Go.Proofs.Ytnmclhgljpcjcaa
