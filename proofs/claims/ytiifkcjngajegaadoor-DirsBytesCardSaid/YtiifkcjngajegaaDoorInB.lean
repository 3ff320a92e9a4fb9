/-
  What the calls of a fix.In that stand on next do.
-/
import Derived.Test.YtiifkcjngajegaaDoorIn
import Derived.Laws.BitsAllLaws
namespace Go.Proofs.YtiifkcjngajegaaDoor
open Go.RowKit

theorem ISt.raw_len (s : ISt) (n : Int) : (s.raw n).2.length ≤ n.toNat := by
  unfold ISt.raw
  split
  · split
    · simp
    · split
      · simp
      · simp [List.length_take]; omega
  · simp

theorem or_byte (N : Nat) (x : Int) (hN : N < 72057594037927936) (h0 : 0 ≤ x) (h1 : x < 256) : bits BinOp.or IntKind.u64 (IntKind.u64.wrap ((N : Int) * 256)) (IntKind.u64.wrap x) = ((N * 256 + x.toNat : Nat) : Int) := by
  obtain ⟨y, rfl⟩ := Int.eq_ofNat_of_zero_le h0
  have e1 : IntKind.u64.wrap ((N : Int) * 256) = ((N * 256 : Nat) : Int) := by rw [IntWalk.u64_in _ (by omega)]; omega
  have e2 : IntKind.u64.wrap (y : Int) = (y : Int) := IntWalk.u64_in _ (by omega)
  rw [e1, e2, u64_or_nat _ _ (by omega) (by omega), Int.toNat_natCast]
  have := Nat.two_pow_add_eq_or_of_lt (i := 8) (b := y) (by omega) N
  rw [show (2 : Nat) ^ 8 = 256 from rfl, Nat.mul_comm] at this
  rw [this]

theorem num_step (l : List Int) (hl : IsB l) (h8 : l.length ≤ 8) (j : Nat) (hj : j < l.length) :
    bits BinOp.or IntKind.u64 (IntKind.u64.wrap ((num (l.take j) : Int) * 256)) (IntKind.u64.wrap (l.getD j 0)) = (num (l.take (j + 1)) : Int) := by
  have h1 := num_lt (l.take j) (hl.take j)
  have h2 : (l.take j).length ≤ 7 := by rw [List.length_take]; omega
  have h3 : 256 ^ (l.take j).length ≤ 256 ^ 7 := Nat.pow_le_pow_right (by decide) h2
  have hx := hl.getD j
  rw [or_byte _ _ (by omega) hx.1 hx.2, List.take_succ_eq_append_getElem hj, num_snoc, List.getD_eq_getElem?_getD, List.getElem?_eq_getElem hj]
  rfl

set_option maxRecDepth 100000 in
/-- Get. -/
theorem Get_any (g : Nat) (s : ISt) (width : Int) (F : Nat → Prop) (w : World) (h : InAt w F g s) :
    Calls Tryd.prog 46 #[.pointer (some ⟨g, 0, none⟩), .int .i64 width] w fun r w' => r = .returned (.int .u64 (s.get width).2) ∧
      InAt w' F g (s.get width).1 ∧ Kept (Only g) w w' := by
  have HO := Lib.hid h
  clear h
  by_cases hw : width < 1 ∨ 8 < width
  · have HG := Lib.hid (show s.get width = (s.fail 1, 0) from if_pos hw)
    rcases hw with hw | hw
    all_goals
      have hw2 : 1 ≤ width ∨ width < 1 := by omega
      go_enter Tryd.func46, Tryd.ntmps46
      go_wp2_with fail
      refine (InFail_any g s 1 F _ HO.out (by omega) (by omega)).mono ?_
      rintro e w1 ⟨rfl, hO1, hk1⟩
      have HO1 := Lib.hid hO1
      clear hO1
      go_wp2
      go_ret
      rw [HG.out]
      exact ⟨rfl, HO1.out, hk1⟩
  · have HG := Lib.hid (show s.get width = ((s.raw width).1, (num (s.raw width).2 : Int)) from if_neg hw)
    obtain ⟨k, rfl⟩ := Int.eq_ofNat_of_zero_le (show 0 ≤ width by omega)
    have hk1 : 1 ≤ k := by omega
    have hk8 : k ≤ 8 := by omega
    clear hw
    go_enter Tryd.func46, Tryd.ntmps46
    go_wp2_with fail
    refine (next_any g s k F _ HO.out (by omega)).mono ?_
    rintro e w1 ⟨v, rfl, hO1, hv, hq1⟩
    have HO1 := Lib.hid hO1
    have HQ1 := Lib.hid hq1
    have hlen := ISt.raw_len s k
    rw [Int.toNat_natCast] at hlen
    obtain ⟨l, hl⟩ : ∃ l, l = (s.raw k).2 := ⟨_, rfl⟩
    rw [← hl] at hv hlen
    have HL := Lib.hid hl
    clear hO1 hq1 hl
    obtain ⟨a, cap, rfl, hc, hm, _, hr⟩ := hv
    have hB := Lib.hid hr.1
    go_wp2
    go_loop [5, 22] (fun n i => ∃ j : Nat, j ≤ l.length ∧ i = .int .i64 j ∧ n = .int .u64 (num (l.take j))) (fun _ i => l.length - (intOf i).toNat)
    case atStart => exact ⟨0, Nat.zero_le _, rfl, rfl⟩
    case round =>
      obtain ⟨j, hj, rfl, rfl⟩ := hrel
      by_cases hlt : j < l.length
      · obtain ⟨b, o, rfl, _, _, hcell⟩ := hr.at_ hlt
        obtain ⟨x, hx⟩ : ∃ x, x = l.getD j 0 := ⟨_, rfl⟩
        rw [← hx] at hcell
        have HX := Lib.hid hx
        clear hx
        go_wp2
        refine ⟨⟨j + 1, by omega, by go_num, ?_⟩, by simp [intOf]; omega⟩
        rw [HX.out, num_step l hB.out (by omega) j hlt]
      · go_wp2
        go_ret
        have e : l.take j = l := List.take_of_length_le (by omega)
        rw [HG.out, ← HL.out, e]
        exact ⟨rfl, HO1.out, HQ1.out⟩

theorem ISt.get_lt {w : World} {F : Nat → Prop} {g : Nat} {s : ISt} (h : InAt w F g s) (width : Int) : 0 ≤ (s.get width).2 ∧ (s.get width).2 ≤ 18446744073709551615 := by
  have hb : IsB s.l := by obtain ⟨_, _, _, _, hb⟩ := h; exact hb.isB
  unfold ISt.get
  split
  · exact ⟨Int.le_refl _, by show (0 : Int) ≤ 18446744073709551615; omega⟩
  · rename_i hw
    have hl := s.raw_len width
    have hB : IsB (s.raw width).2 := by
      unfold ISt.raw
      split
      · split
        · exact IsB.nil
        · split
          · exact IsB.nil
          · exact hb.take _
      · exact IsB.nil
    have h1 := num_lt _ hB
    have h3 : 256 ^ (s.raw width).2.length ≤ 256 ^ 8 := Nat.pow_le_pow_right (by decide) (by omega)
    show (0 : Int) ≤ (num (s.raw width).2 : Int) ∧ (num (s.raw width).2 : Int) ≤ 18446744073709551615
    omega
theorem ISt.get_err (s : ISt) (width : Int) (he : (s.get width).1.err ≠ 0) : (s.get width).2 = 0 := by
  unfold ISt.get at he ⊢
  split
  · rfl
  · rename_i hw
    rw [if_neg hw] at he
    simp only at he ⊢
    unfold ISt.raw at he ⊢
    split at he
    · rename_i h0
      rw [if_pos h0]
      split
      · rfl
      · split
        · rfl
        · rename_i h1 h2
          rw [if_neg h1, if_neg h2] at he
          exact absurd rfl he
    · rename_i h0
      rw [if_neg h0]
      rfl
theorem ISt.get_ok {s : ISt} (h : s.ok) (width : Int) : (s.get width).1.ok := by
  unfold ISt.get
  split
  · exact ISt.fail_ok h (by decide) (by decide)
  · exact ISt.raw_ok h _
theorem ISt.upto_get (s : ISt) (width most : Int) (hm : 0 ≤ most) : s.upto width most = if most < (s.get width).2 then ((s.get width).1.fail 4, 0) else ((s.get width).1, (s.get width).2) := by
  have hge := s.get_err width
  unfold ISt.upto
  unfold ISt.get at hge ⊢
  by_cases hw : width < 1 ∨ 8 < width
  · rw [if_pos hw, if_pos hw]
    simp only
    rw [if_neg (by omega)]
  · rw [if_neg hw] at hge ⊢
    rw [if_neg hw]
    simp only at hge ⊢
    by_cases he : (s.raw width).1.err = 0
    · rw [if_pos he]
      by_cases hn : most < num (s.raw width).2
      · rw [if_pos hn, if_pos hn]
        simp only [ISt.fail, he, if_true]
      · rw [if_neg hn, if_neg hn]
    · rw [if_neg he]
      have := hge he
      rw [if_neg (by omega), this]

set_option maxRecDepth 100000 in
/-- Upto. -/
theorem Upto_any (g : Nat) (s : ISt) (width most : Int) (F : Nat → Prop) (w : World) (h : InAt w F g s) (hm : 0 ≤ most) :
    Calls Tryd.prog 44 #[.pointer (some ⟨g, 0, none⟩), .int .i64 width, .int .u64 most] w fun r w' => r = .returned (.int .u64 (s.upto width most).2) ∧
      InAt w' F g (s.upto width most).1 ∧ Kept (Only g) w w' := by
  have HO := Lib.hid h
  have HU := Lib.hid (s.upto_get width most hm)
  clear h
  by_cases hlt : most < (s.get width).2
  · go_enter Tryd.func44, Tryd.ntmps44
    go_wp2_with fail
    refine (Get_any g s width F _ HO.out).mono ?_
    rintro e w1 ⟨rfl, hO1, hk1⟩
    have HO1 := Lib.hid hO1
    clear hO1
    go_wp2_with fail
    refine (InFail_any g _ 4 F _ HO1.out (by omega) (by omega)).mono ?_
    rintro e w2 ⟨rfl, hO2, hk2⟩
    have HO2 := Lib.hid hO2
    clear hO2
    go_wp2
    go_ret
    rw [HU.out, if_pos hlt]
    exact ⟨rfl, HO2.out, hk1.trans hk2 (fun _ _ h => h)⟩
  · go_enter Tryd.func44, Tryd.ntmps44
    go_wp2_with fail
    refine (Get_any g s width F _ HO.out).mono ?_
    rintro e w1 ⟨rfl, hO1, hk1⟩
    have HO1 := Lib.hid hO1
    clear hO1
    go_wp2
    go_ret
    rw [HU.out, if_neg (by omega)]
    exact ⟨rfl, HO1.out, hk1⟩

set_option maxRecDepth 100000 in
/-- Raw. -/
theorem InRaw_any (g : Nat) (s : ISt) (n : Int) (F : Nat → Prop) (w : World) (h : InAt w F g s) (hn : n ≤ 9223372036854775807) :
    Calls Tryd.prog 45 #[.pointer (some ⟨g, 0, none⟩), .int .i64 n] w fun r w' => ∃ v, r = .returned v ∧
      InAt w' F g (s.raw n).1 ∧ BSl w' F v (s.raw n).2 ∧ Kept (Only g) w w' := by
  have HO := Lib.hid h
  clear h
  by_cases hneg : n < 0
  · have HU : Hid (s.raw n = (s.fail 1, [])) := by
      show s.raw n = _
      unfold ISt.raw ISt.fail
      split
      · rfl
      · rfl
    go_enter Tryd.func45, Tryd.ntmps45
    go_wp2_with fail
    refine (InFail_any g s 1 F _ HO.out (by omega) (by omega)).mono ?_
    rintro e w1 ⟨rfl, hO1, hk1⟩
    have HO1 := Lib.hid hO1
    clear hO1
    go_wp2
    go_ret
    rw [HU.out]
    exact ⟨_, rfl, HO1.out, BSl.nil _ _, hk1⟩
  · obtain ⟨k, rfl⟩ := Int.eq_ofNat_of_zero_le (show 0 ≤ n by omega)
    clear hneg
    go_enter Tryd.func45, Tryd.ntmps45
    go_wp2_with fail
    refine (next_any g s k F _ HO.out (by omega)).mono ?_
    rintro e w1 ⟨v, rfl, hO1, hv, hk1⟩
    have HO1 := Lib.hid hO1
    have HV := Lib.hid hv
    clear hO1
    obtain ⟨a, cap, rfl, _⟩ := hv
    go_wp2
    go_ret
    exact ⟨_, rfl, HO1.out, HV.out, hk1⟩

theorem ISt.get2_lt (s : ISt) (hb : IsB s.l) : 0 ≤ (s.get 2).2 ∧ (s.get 2).2 < 65536 := by
  have e : (s.get 2).2 = (num (s.raw 2).2 : Int) := by unfold ISt.get; rw [if_neg (by omega)]
  have hl := s.raw_len 2
  have hB : IsB (s.raw 2).2 := by
    unfold ISt.raw
    split
    · split
      · exact IsB.nil
      · split
        · exact IsB.nil
        · exact hb.take _
    · exact IsB.nil
  have h1 := num_lt _ hB
  have h3 : 256 ^ (s.raw 2).2.length ≤ 256 ^ 2 := Nat.pow_le_pow_right (by decide) hl
  rw [e]
  omega

end Go.Proofs.YtiifkcjngajegaaDoor
