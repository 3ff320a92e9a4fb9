/-
  One command, plainly: what P9.5 asks of it.
-/
import Derived.Test.YtlnfbfdmicmafaaDoorCnfAP
import Derived.Test.YtlnfbfdmicmafaaDoorCnfAR
namespace Go.Proofs.YtlnfbfdmicmafaaDoor
open Go.RowKit
set_option linter.unusedVariables false
set_option linter.unusedSimpArgs false

theorem RBegin_any (chains per : Int) (w : World) : Calls Tryd.prog 29 #[.int .i64 chains, .int .i64 per] w (BegE chains per w) := by
  cases h : begB chains per with
  | false => exact RBegin_bad chains per w h
  | true =>
    have hb : 1 ≤ chains ∧ chains ≤ 4 ∧ 1 ≤ per ∧ per ≤ 5 := of_decide_eq_true h
    obtain ⟨c, rfl⟩ := Int.eq_ofNat_of_zero_le (show 0 ≤ chains by omega)
    obtain ⟨p, rfl⟩ := Int.eq_ofNat_of_zero_le (show 0 ≤ per by omega)
    exact RBegin_good c p w (by omega) (by omega) (by omega) (by omega)
theorem set_some {c : Cf} (h : Rgt c) : ∃ x, x ∈ c.set := by
  rw [set_rgt h]
  obtain ⟨r1, r2, r3, r4, r5, r6, r7⟩ := h
  cases hf : c.fr with
  | false =>
    rw [if_neg (by simp)]
    exact ⟨_, List.getElem_mem (n := 0) (by omega)⟩
  | true =>
    have := (r6 hf).1
    rw [if_pos rfl]
    exact ⟨_, List.getElem_mem (n := 0) (by rw [List.length_take]; omega)⟩
/-- What one command does, chain by chain. -/
structure Stp (l l' : List Cf) (ok : Bool) (k ch : Int) : Prop where
  len : l'.length = l.length
  all : AllC l'
  moved : ∀ c, c < l.length → ok = true → k ≠ 0 → ch = (c : Int) → (nthC l' c).ep = (nthC l c).ep + 1 ∧ (nthC l c).ep ≠ topE
  stays : ∀ c, c < l.length → ¬ (ok = true ∧ k ≠ 0 ∧ ch = (c : Int)) → nthC l' c = nthC l c
  meet : ∀ c, c < l.length → meetB (nthC l c).set (nthC l' c).set = true
  ord : ∀ c, c < l.length → Ordd (nthC l c).ns (nthC l' c).ns
theorem stp_same {l : List Cf} {ok : Bool} {k ch : Int} (hA : AllC l) (hno : ∀ c : Nat, c < l.length → ¬ (ok = true ∧ k ≠ 0 ∧ ch = (c : Int))) : Stp l l ok k ch where
  len := rfl
  all := hA
  moved := fun c hc h1 h2 h3 => absurd ⟨h1, h2, h3⟩ (hno c hc)
  stays := fun _ _ _ => rfl
  meet := fun c hc => by
    obtain ⟨x, hx⟩ := set_some (hA.2.2 c hc).1
    exact meet_of hx hx
  ord := fun c _ => Ordd.refl _
theorem stp_of {l : List Cf} {e0 k ch ep nd : Int} (hA : AllC l) (hx : Chk k ch ep nd e0) (hbd : ∀ j, j < l.length → (nthC l j).ep ≤ topE) : Stp l (doC l e0 k ch ep nd) (decide (canC l e0 k ch ep nd = 0)) k ch := by
  by_cases hc : canC l e0 k ch ep nd = 0
  · obtain ⟨_, rfl, hk⟩ := can_ok hc
    have hv := Chk.ok.1 hx
    by_cases k0 : k = 0
    · subst k0
      rw [doC_zero]
      exact stp_same hA (fun c _ h => h.2.1 rfl)
    · rcases hk with hk | ⟨_, h1, h2, h3, h4⟩
      · exact absurd hk k0
      rw [doC_yes hc k0]
      unfold Vld at hv
      have hch0 : 0 ≤ ch := by omega
      have hk1 : 1 ≤ k := by unfold Chk at hx; omega
      have hk4 : k ≤ 4 := by unfold Chk at hx; omega
      have hn1 : 1 ≤ nd := by omega
      have hn2 : nd ≤ 24 := by omega
      obtain ⟨i, rfl⟩ := Int.eq_ofNat_of_zero_le hch0
      have hi : i < l.length := by omega
      obtain ⟨ha, hg⟩ := do_all hA hk1 hk4 hch0 h1 hn1 hn2 h3 h4 (hbd _ (by rw [Int.toNat_natCast]; exact hi))
      rw [Int.toNat_natCast] at *
      have hat : nthC (l.set i (madeC (nthC l i) k nd)) i = madeC (nthC l i) k nd := nthC_sets hi _
      have hfar : ∀ c, c ≠ i → nthC (l.set i (madeC (nthC l i) k nd)) c = nthC l c := fun c hne => by rw [nthC_set hi, if_neg hne]
      refine ⟨by simp, ha, fun c hcl _ _ he => ?_, fun c hcl hno => ?_, fun c hcl => ?_, fun c hcl => ?_⟩
      · obtain rfl : i = c := by omega
        rw [hat]
        exact ⟨hg.ep, h4⟩
      · refine hfar c (fun e => ?_)
        subst e
        exact hno ⟨decide_eq_true hc, k0, rfl⟩
      · by_cases e : c = i
        · subst e
          rw [hat]
          obtain ⟨x, x1, x2⟩ := hg.set
          exact meet_of x1 x2
        · rw [hfar c e]
          obtain ⟨x, hx⟩ := set_some (hA.2.2 c hcl).1
          exact meet_of hx hx
      · by_cases e : c = i
        · subst e
          rw [hat]
          exact hg.ns
        · rw [hfar c e]
          exact Ordd.refl _
  · rw [doC_no hc]
    exact stp_same hA (fun c _ h => hc (of_decide_eq_true h.1))
end Go.Proofs.YtlnfbfdmicmafaaDoor
