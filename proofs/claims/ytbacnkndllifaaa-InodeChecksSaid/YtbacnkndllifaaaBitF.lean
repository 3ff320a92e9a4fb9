/-
  Package bits: New, Set. The chapter's: without, Of.
-/
import Derived.Test.YtbacnkndllifaaaBitE
import Derived.StillTailTactics
namespace Go.Proofs.Ytbacnkndllifaaa
open Go.RowKit
set_option linter.unusedVariables false

/-- Bytes and an error. -/
def BErr (er : Int) (L : List Int) (w : World) (e : Ending) (w' : World) : Prop := ∃ a c, e = .returned (.tuple #[.slice a L.length c, .int .i64 er]) ∧ BSl w' (fun k => w.heap.size ≤ k) (.slice a L.length c) L ∧ Kept NoB w w'
theorem BErr.mk {er : Int} {w w' : World} {v : Value} {L : List Int} {F : Nat → Prop} (h : BSl w' F v L) (hF : ∀ k, F k → w.heap.size ≤ k) (hk : Kept NoB w w') : BErr er L w (.returned (.tuple #[v, .int .i64 er])) w' := by
  have h' := h.mono (G := fun k => w.heap.size ≤ k) (fun k _ h => hF k h)
  obtain ⟨a, c, rfl, _⟩ := id h'
  exact ⟨a, c, rfl, h', hk⟩
theorem bytB_bsl {w w' : World} {g : Nat} {l : List Int} (h : BytB w' g l) (hg : w.heap.size ≤ g) (hl : l.length ≤ 600) : BSl w' (fun k => w.heap.size ≤ k) (bv g l.length) l :=
  (h.bsl (by unfold maxLen; omega)).mono (fun k _ e => by rw [e]; exact hg)

theorem bNew27_bad (n : Int) (w : World) (h : n < 0 ∨ 4096 < n) : Calls Try.prog 15 #[.int .i64 n] w (BErr 1 [] w) := by
  have HIS := Lib.hid (isSize_any n w)
  rw [decide_eq_false (by omega)] at HIS
  clear h
  go_enter Try.func15, Try.ntmps15
  go_wp2_with (go_at_call 56; refine HIS.out.mono ?_; rintro e w' ⟨rfl, rfl⟩)
  go_ret2
  exact BErr.mk (BSl.nil _ (fun _ => False)) (fun _ h => h.elim) (Kept.refl _ _)
theorem bNew27_ok (n : Nat) (w : World) (h : n ≤ 4096) : Calls Try.prog 15 #[.int .i64 (n : Int)] w (BErr 0 (wholeB [] n) w) := by
  have HIS := Lib.hid (isSize_any (n : Int) w)
  rw [decide_eq_true (by omega)] at HIS
  have HW := Lib.hid (whole_any (.slice none 0 0) [] NoB n w (BSl.nil _ _) h (.inl rfl))
  have hl := wholeB_len (l := []) (n := n) (.inl rfl)
  have hb := byt_lt n
  rw [← hl] at HW hb
  have HL : Hid ((wholeB [] n).length ≤ 600) := Lib.hid (by omega)
  clear hl hb
  go_enter Try.func15, Try.ntmps15
  go_wp2_with (first
    | (go_at_call 56; refine HIS.out.mono ?_; rintro e w' ⟨rfl, rfl⟩)
    | (go_at_call 52; refine HW.out.mono ?_; rintro e w' ⟨rfl, hb, hk⟩; have HB := Lib.hid hb; have HK := Lib.hid hk; clear hb hk))
  go_ret2
  exact BErr.mk (bytB_bsl HB.out (Nat.le_refl _) HL.out) (fun _ h => h) HK.out

/-- What Set is. -/
def set27E (l : List Int) (n i : Int) : Int := if fitB l n then (if 0 ≤ i ∧ i < n then 0 else 20) else 4
def set27L (l : List Int) (n i : Int) (on : Bool) : List Int := if fitB l n ∧ 0 ≤ i ∧ i < n then turnB (wholeB l n.toNat) i.toNat on else []
set_option maxRecDepth 100000 in
theorem bSet27_any (v : Value) (l : List Int) (F : Nat → Prop) (n i : Int) (on : Bool) (w : World) (h : BSl w F v l) :
    Calls Try.prog 13 #[v, .int .i64 n, .int .i64 i, .bool on] w (BErr (set27E l n i) (set27L l n i on) w) := by
  have HF := Lib.hid (bFits_any v l F n w h)
  cases hf : fitB l n with
  | false =>
    rw [hf] at HF
    rw [show set27E l n i = 4 by simp [set27E, hf], show set27L l n i on = [] by simp [set27L, hf]]
    clear hf h
    go_enter Try.func13, Try.ntmps13
    go_wp2_with (go_at_call 18; refine HF.out.mono ?_; rintro e w' ⟨rfl, rfl⟩)
    go_ret2
    exact BErr.mk (BSl.nil _ (fun _ => False)) (fun _ h => h.elim) (Kept.refl _ _)
  | true =>
    rw [hf] at HF
    by_cases hi : 0 ≤ i ∧ i < n
    · obtain ⟨n', rfl, hn4, hl, _⟩ := fitB_nat hf
      obtain ⟨k, rfl⟩ := Int.eq_ofNat_of_zero_le hi.1
      have hkn : k < n' := by omega
      rw [show set27E l n' k = 0 by simp [set27E, hf]; omega, show set27L l n' k on = turnB (wholeB l n') k on by simp [set27L, hf]; omega]
      have HW := Lib.hid (whole_any v l F n' w h hn4 hl)
      have hwl := wholeB_len hl
      have hb1 := byt_le n'
      have hb2 := byt_lt n'
      rw [← hwl] at HW hb1 hb2
      obtain ⟨L, hL⟩ : ∃ L, L = wholeB l n' := ⟨_, rfl⟩
      rw [← hL] at HW hb1 hb2 ⊢
      have HTL : Hid ((turnB L k on).length = L.length) := Lib.hid (turnB_len _ _ _)
      have h0 : (0 : Int) ≤ (k : Int) := by omega
      have h1 : (k : Int) < (n' : Int) := by omega
      have HP : Hid (∀ w', BytB w' w.heap.size L → Calls Try.prog 53 #[bv w.heap.size L.length, .int .i64 (k : Int), .bool on] w' (TurnE w.heap.size (turnB L k on) w')) := Lib.hid (fun w' hw => put_any _ L k on w' hw (by omega) (by omega))
      have HLL : Hid (L.length ≤ 600) := Lib.hid (by omega)
      clear hf h hi hwl hL hb1 hb2 hl
      go_enter Try.func13, Try.ntmps13
      go_wp2_with (first
        | (go_at_call 18; refine HF.out.mono ?_; rintro e w' ⟨rfl, rfl⟩)
        | (go_at_call 52; refine HW.out.mono ?_; rintro e w1 ⟨rfl, hb, hk⟩; have HB := Lib.hid hb; have HK := Lib.hid hk; clear hb hk)
        | (go_at_call 53; refine (HP.out _ HB.out).mono ?_; rintro e w2 ⟨rfl, hb, hk⟩; have HB2 := Lib.hid hb; have HK2 := Lib.hid (HK.out.trans hk (fun i h1 h2 => absurd h1 (by omega))); clear hb hk))
      go_ret2
      have hx := bytB_bsl HB2.out (Nat.le_refl _) (by rw [HTL.out]; exact HLL.out)
      rw [HTL.out] at hx
      exact BErr.mk hx (fun _ h => h) HK2.out
    · rw [show set27E l n i = 20 by simp [set27E, hf]; omega, show set27L l n i on = [] by simp [set27L]; omega]
      by_cases h0 : i < 0
      · clear hf h hi
        go_enter Try.func13, Try.ntmps13
        go_wp2_with (go_at_call 18; refine HF.out.mono ?_; rintro e w' ⟨rfl, rfl⟩)
        go_ret2
        exact BErr.mk (BSl.nil _ (fun _ => False)) (fun _ h => h.elim) (Kept.refl _ _)
      · have h1 : n ≤ i := by omega
        have h2 : 0 ≤ i := by omega
        clear hf h hi h0
        go_enter Try.func13, Try.ntmps13
        go_wp2_with (go_at_call 18; refine HF.out.mono ?_; rintro e w' ⟨rfl, rfl⟩)
        go_ret2
        exact BErr.mk (BSl.nil _ (fun _ => False)) (fun _ h => h.elim) (Kept.refl _ _)
end Go.Proofs.Ytbacnkndllifaaa
