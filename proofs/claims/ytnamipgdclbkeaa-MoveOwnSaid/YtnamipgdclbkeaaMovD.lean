/-
  An outgoing picture: At, Parts, Part; the chapter's Parts and Part.
-/
import Derived.Test.YtnamipgdclbkeaaMovC
namespace Go.Proofs.Ytnamipgdclbkeaa
open Go.RowKit Go.Shelf
set_option linter.unusedVariables false

theorem addr_add21 (b o j : Nat) : (⟨b, o, none⟩ : Addr).add j = ⟨b, o + j, none⟩ := by unfold Addr.add; split <;> simp_all
theorem PartsN_any (w : World) : Calls Try.prog 11 #[.pointer none] w fun e w' => e = .returned (.int .i64 0) ∧ w = w' := by
  go_enter Try.func11, Try.ntmps11
  go_wp2
  go_ret
  exact ⟨rfl, rfl⟩
theorem AtN_any (w : World) : Calls Try.prog 12 #[.pointer none] w fun e w' => e = .returned (.int .u64 0) ∧ w = w' := by
  go_enter Try.func12, Try.ntmps12
  go_wp2
  go_ret
  exact ⟨rfl, rfl⟩
theorem Parts_any (g n : Nat) (l : List Int) (F : Nat → Prop) (w : World) (h : OtAt w F g n l) : Calls Try.prog 11 #[.pointer (some ⟨g, 0, none⟩)] w fun e w' => e = .returned (.int .i64 (npr l.length)) ∧ w = w' := by
  obtain ⟨h1, a, c, vs, h2, _⟩ := h
  have q1 : w.cell? ⟨g, 1, none⟩ = some (.slice a (npr l.length) c) := cell_of_row _ _ 1 _ _ _ h2
  clear h2
  go_enter Try.func11, Try.ntmps11
  go_wp2
  go_ret
  exact ⟨rfl, rfl⟩
theorem At_any (g n : Nat) (l : List Int) (F : Nat → Prop) (w : World) (h : OtAt w F g n l) : Calls Try.prog 12 #[.pointer (some ⟨g, 0, none⟩)] w fun e w' => e = .returned (.int .u64 n) ∧ w = w' := by
  obtain ⟨h1, a, c, vs, h2, _⟩ := h
  have q1 : w.cell? ⟨g, 0, none⟩ = some (.int .u64 n) := cell_of_row _ _ 0 _ _ _ h2
  clear h2
  go_enter Try.func12, Try.ntmps12
  go_wp2
  go_ret
  exact ⟨rfl, rfl⟩
theorem PartN_any (i : Int) (w : World) : Calls Try.prog 9 #[.pointer none, .int .i64 i] w fun e w' => e = .returned (.tuple #[.slice none 0 0, .bool false]) ∧ w = w' := by
  by_cases h : i < 0
  · go_enter Try.func9, Try.ntmps9
    go_wp2
    go_ret2
    exact ⟨rfl, rfl⟩
  · have hd : decide (i < 0) = false := decide_eq_false h
    have h0 : 0 ≤ i := by omega
    go_enter Try.func9, Try.ntmps9
    go_wp2_with (go_at_call 11; refine (PartsN_any _).mono ?_; rintro e w2 ⟨rfl, rfl⟩)
    go_ret2
    exact ⟨rfl, rfl⟩
set_option maxRecDepth 100000 in
theorem Part_any (g n : Nat) (l : List Int) (i : Int) (F : Nat → Prop) (w : World) (h : OtAt w F g n l) (hl : l.length ≤ 100000) : Calls Try.prog 9 #[.pointer (some ⟨g, 0, none⟩), .int .i64 i] w fun e w' =>
    ∃ v b, e = .returned (.tuple #[v, .bool b]) ∧ b = decide (0 ≤ i ∧ i < npr l.length) ∧ BSl w' (fun k => w.heap.size ≤ k ∧ k < w'.heap.size) v (if b then prt l i.toNat else []) ∧ Kept NoB w w' := by
  have HP := Lib.hid (Parts_any g n l F w h)
  by_cases h0 : i < 0
  · clear h
    go_enter Try.func9, Try.ntmps9
    go_wp2
    go_ret2
    exact ⟨_, _, rfl, (decide_eq_false (by omega)).symm, BSl.nil _ _, Kept.refl _ _⟩
  · have hd : decide (i < 0) = false := decide_eq_false h0
    by_cases h1 : (npr l.length : Int) ≤ i
    · have hd2 : decide ((npr l.length : Int) ≤ i) = true := decide_eq_true h1
      clear h
      go_enter Try.func9, Try.ntmps9
      go_wp2_with (go_at_call 11; refine HP.out.mono ?_; rintro e w2 ⟨rfl, rfl⟩)
      go_ret2
      exact ⟨_, _, rfl, (decide_eq_false (by omega)).symm, BSl.nil _ _, Kept.refl _ _⟩
    · have hd2 : decide ((npr l.length : Int) ≤ i) = false := decide_eq_false h1
      obtain ⟨k, rfl⟩ : ∃ k : Nat, i = k := ⟨i.toNat, by omega⟩
      obtain ⟨hF, a, c, vs, h2, hown, _, hv⟩ := h
      obtain ⟨v, hvk, hb⟩ := hv k (by omega)
      have q1 : w.cell? ⟨g, 1, none⟩ = some (.slice a (npr l.length) c) := cell_of_row _ _ 1 _ _ _ h2
      obtain ⟨r, cap, he, _, _⟩ := hown.form (by omega)
      injection he with he1 he2 he3
      subst he1 he3
      have q2 := hown.cells (g := r) rfl k v hvk
      rw [addr_add21] at q2
      rw [Nat.zero_add] at q2
      have hk : k < npr l.length := by omega
      have HC := Lib.hid (CloneM_any v (prt l k) F w hb (by rw [prt_len]; omega))
      clear h2 hown hv hb hvk
      go_enter Try.func9, Try.ntmps9
      go_wp2_with (first
        | (go_at_call 11; refine HP.out.mono ?_; rintro e w2 ⟨rfl, rfl⟩)
        | (go_at_call 23; refine HC.out.mono ?_; rintro e w2 ⟨v', rfl, hv', hk'⟩; have HV := Lib.hid hv'; have HK := Lib.hid hk'; clear hv' hk'))
      go_ret2
      exact ⟨_, _, rfl, (decide_eq_true ⟨by omega, by omega⟩).symm, by simpa using HV.out, HK.out⟩

set_option maxRecDepth 100000 in
theorem RParts_any (v : Value) (l : List Int) (F : Nat → Prop) (w : World) (h : BSl w F v l) (hl : l.length ≤ 100000) : Calls Try.prog 13 #[v] w fun e w' => e = .returned (.int .i64 (npr l.length)) ∧ w = w' := by
  obtain ⟨a, cap, rfl, _⟩ := h
  go_enter Try.func13, Try.ntmps13
  go_wp2
  go_loop [3] (fun n => ∃ k : Nat, n = .int .i64 k ∧ 1 ≤ k ∧ k ≤ npr l.length) (fun n => npr l.length - (intOf n).toNat)
  case atStart => exact ⟨1, rfl, Nat.le_refl _, by unfold npr; omega⟩
  case round =>
    obtain ⟨k, rfl, hk1, hk2⟩ := hrel
    have hN : npr l.length ≤ 100000 := by unfold npr; omega
    by_cases hlt : (k : Int) * 1024 < l.length
    · have hk3 : k + 1 ≤ npr l.length := by unfold npr; omega
      go_wp2
      go_round
      case rel => exact ⟨k + 1, by go_num, by omega, hk3⟩
      case measure => simp [intOf]; omega
    · have hk3 : k = npr l.length := by unfold npr at hk2 ⊢; omega
      go_wp2
      go_ret
      first | exact ⟨rfl, rfl⟩ | exact ⟨by rw [hk3], rfl⟩
theorem prt_alt (l : List Int) (k : Nat) : prt l k = (l.drop (k * 1024)).take 1024 := by unfold prt; rw [Nat.mul_comm]
theorem prt_end (l : List Int) (k : Nat) (h : l.length < (k + 1) * 1024) : (l.drop (k * 1024)).take (l.length - k * 1024) = prt l k := by
  rw [prt_alt, List.take_of_length_le (by simp), List.take_of_length_le (by simp; omega)]
theorem sub_1024 (k : Nat) : (k + 1) * 1024 - k * 1024 = 1024 := by omega
theorem prt_mid (l : List Int) (k : Nat) : (l.drop (k * 1024)).take ((k + 1) * 1024 - k * 1024) = prt l k := by rw [sub_1024, prt_alt]
theorem sub_bsl {w : World} {F : Nat → Prop} {a : Option Addr} {cap k m : Nat} {l : List Int} (h : BSl w F (.slice a l.length cap) l) (h1 : k * 1024 ≤ m) (h2 : m ≤ l.length) :
    BSl w F (.slice (if cap = k * 1024 then a else a.map (·.add (k * 1024))) (m - k * 1024) (cap - k * 1024)) ((l.drop (k * 1024)).take (m - k * 1024)) := by
  obtain ⟨a', cap', he, hc, hm, hn, hr⟩ := h
  injection he with he1 he2 he3
  subst he1 he3
  obtain ⟨a2, c2, he, hc2, hm2, hn2, hr2⟩ := bsl_drop (n := k * 1024) hc hm hn hr
  injection he with he1 he2 he3
  rw [← he1] at hr2 hn2
  rw [← he3] at hc2 hm2 hn2
  exact bsl_take hc2 hm2 hn2 hr2 (by simp; omega)
set_option maxRecDepth 100000 in
theorem RPart_any (v : Value) (l : List Int) (i : Int) (F : Nat → Prop) (w : World) (h : BSl w F v l) (hl : l.length ≤ 100000) : Calls Try.prog 10 #[v, .int .i64 i] w fun e w' =>
    ∃ v b, e = .returned (.tuple #[v, .bool b]) ∧ b = decide (0 ≤ i ∧ i < npr l.length) ∧ BSl w F v (if b then prt l i.toNat else []) ∧ w = w' := by
  have HP := Lib.hid (RParts_any v l F w h hl)
  have HB := Lib.hid h
  obtain ⟨a, cap, rfl, hc, hm, hn, hr⟩ := h
  have hNp : npr l.length ≤ 100000 := by unfold npr; omega
  by_cases h0 : i < 0
  · go_enter Try.func10, Try.ntmps10
    go_wp2
    go_ret2
    exact ⟨_, _, rfl, (decide_eq_false (by omega)).symm, BSl.nil _ _, rfl⟩
  · have hd : decide (i < 0) = false := decide_eq_false h0
    by_cases h1 : (npr l.length : Int) ≤ i
    · have hd2 : decide ((npr l.length : Int) ≤ i) = true := decide_eq_true h1
      go_enter Try.func10, Try.ntmps10
      go_wp2_with (go_at_call 13; refine HP.out.mono ?_; rintro e w2 ⟨rfl, rfl⟩)
      go_ret2
      exact ⟨_, _, rfl, (decide_eq_false (by omega)).symm, BSl.nil _ _, rfl⟩
    · have hd2 : decide ((npr l.length : Int) ≤ i) = false := decide_eq_false h1
      obtain ⟨k, rfl⟩ : ∃ k : Nat, i = k := ⟨i.toNat, by omega⟩
      have hk : k < npr l.length := by omega
      have hkl : k * 1024 ≤ l.length := by unfold npr at hk; omega
      have hbk : decide (0 ≤ (k : Int) ∧ (k : Int) < npr l.length) = true := decide_eq_true ⟨by omega, by omega⟩
      have hsub := fun m h1 h2 => sub_bsl HB.out (k := k) (m := m) h1 h2
      clear hn hr
      have hN1 : npr l.length = (l.length - 1) / 1024 + 1 := rfl
      by_cases hgt : l.length < (k + 1) * 1024
      · have hd3 : decide ((l.length : Int) < ((k : Int) + 1) * 1024) = true := decide_eq_true (by omega)
        have e1 := prt_end l k hgt
        have HS := Lib.hid (hsub l.length hkl (Nat.le_refl _))
        rw [e1] at HS
        clear hsub hN1 e1
        by_cases hcc : cap = k * 1024
        · rw [if_pos hcc] at HS
          subst hcc
          go_enter Try.func10, Try.ntmps10
          go_wp2_with (go_at_call 13; refine HP.out.mono ?_; rintro e w2 ⟨rfl, rfl⟩)
          go_ret2
          exact ⟨_, _, rfl, hbk.symm, HS.out, rfl⟩
        · rw [if_neg hcc] at HS
          go_enter Try.func10, Try.ntmps10
          go_wp2_with (go_at_call 13; refine HP.out.mono ?_; rintro e w2 ⟨rfl, rfl⟩)
          go_ret2
          exact ⟨_, _, rfl, hbk.symm, HS.out, rfl⟩
      · have hd3 : decide ((l.length : Int) < ((k : Int) + 1) * 1024) = false := decide_eq_false (by omega)
        have e1 := prt_mid l k
        have HS := Lib.hid (hsub ((k + 1) * 1024) (by omega) (by omega))
        rw [e1] at HS
        have hcc : ¬ cap = k * 1024 := by omega
        rw [if_neg hcc] at HS
        clear hsub hN1 e1
        go_enter Try.func10, Try.ntmps10
        go_wp2_with (go_at_call 13; refine HP.out.mono ?_; rintro e w2 ⟨rfl, rfl⟩)
        go_ret2
        exact ⟨_, _, rfl, hbk.symm, HS.out, rfl⟩
end Go.Proofs.Ytnamipgdclbkeaa
