/-
  The walk of BagRises.
-/
import Derived.Test.YteinjmhogkneoaaBagK
import Derived.Deep.DeepCutAuto
import Derived.Deep.CutBlock
namespace Go.Proofs.Yteinjmhogkneoaa
open Go.RowKit
set_option linter.unusedVariables false

/-- A call: its kind, its index, its value. -/
structure Op' where
  kind : Int
  i : Int
  v : Int
/-- The value is a slice of n calls. -/
def OpsAt (w : World) (v : Value) (n : Nat) (it : Nat → Op') : Prop :=
  ∃ a cap, v = .slice a n cap ∧ n ≤ 9223372036854775807 ∧ (0 < n → ∃ b o, a = some ⟨b, o, none⟩ ∧ b < w.heap.size ∧ ∀ j, j < n → w.cell? ⟨b, o + j * 3, none⟩ = some (.int .i64 (it j).kind) ∧
    w.cell? ⟨b, o + j * 3 + 1, none⟩ = some (.int .i64 (it j).i) ∧ w.cell? ⟨b, o + j * 3 + 2, none⟩ = some (.int .i64 (it j).v))

/-- Twice, where the item is there. -/
theorem Twice_put (B g : Nat) (row : Option Nat) (most last : Int) (l : List It) (i : Nat) (w : World) (h : Bg B w g row most last l) (hi : i < l.length) (R : Ending → World → Prop)
    (hp : Calls Try.prog 12 #[.pointer (some ⟨g, 0, none⟩), .int .i64 (nth l i).2] w fun e w' => ∃ (a b : Int), e = .returned (.tuple #[.int .i64 a, .int .i64 b]) ∧ R e w') :
    Calls Try.prog 13 #[.pointer (some ⟨g, 0, none⟩), .int .i64 i] w R := by
  have HA := Lib.hid (At_yes B g row most last l i w h hi)
  have HP := Lib.hid hp
  obtain ⟨x, hx⟩ : ∃ x, x = (nth l i).2 := ⟨_, rfl⟩
  rw [← hx] at HA HP
  clear h hp hx
  go_enter Try.func13, Try.ntmps13
  go_wp2_with fail
  refine HA.out.mono ?_
  rintro e w' ⟨rfl, rfl⟩
  go_wp2_with fail
  refine HP.out.mono ?_
  rintro e w1 ⟨a, b, rfl, hr⟩
  have HR := Lib.hid hr
  clear hr
  go_wp2
  exact HR.out
theorem Twice_no (B g : Nat) (row : Option Nat) (most last : Int) (l : List It) (i : Int) (w : World) (h : Bg B w g row most last l) (hi : i < 0 ∨ (l.length : Int) ≤ i) :
    Calls Try.prog 13 #[.pointer (some ⟨g, 0, none⟩), .int .i64 i] w fun e w' => e = .returned (.tuple #[.int .i64 0, .int .i64 7]) ∧ w = w' := by
  have HA := Lib.hid (At_no B g row most last l i w h hi)
  clear h hi
  go_enter Try.func13, Try.ntmps13
  go_wp2_with fail
  refine HA.out.mono ?_
  rintro e w' ⟨rfl, rfl⟩
  go_wp2
  go_ret2
  exact ⟨rfl, rfl⟩

/-- A bag whose numbers rise, the last one la. -/
def St (w0 : World) (g : Nat) (la : Int) (w : World) : Prop :=
  ∃ row l, Bg w0.heap.size w g row 50 la l ∧ Inc la l ∧ l.length ≤ 50 ∧ Kept NoB w0 w
/-- What a call leaves: such a bag, its last number at most one more. -/
def StP (w0 : World) (g : Nat) (la : Int) (e : Ending) (w' : World) : Prop :=
  ∃ (v : Value) (la' : Int), e = .returned v ∧ la ≤ la' ∧ la' ≤ la + 1 ∧ St w0 g la' w'
theorem St.drewN {w0 : World} {g : Nat} {la : Int} {w : World} (h : St w0 g la w) (n : Nat) : St w0 g la (w.drewN n) := by
  obtain ⟨row, l, h1, h2, h3, h4⟩ := h
  exact ⟨row, l, h1, h2, h3, h4.drewN n⟩
/-- Put, with what it answers. -/
theorem Put_st (w0 : World) (g : Nat) (la : Int) (x : Int) (w : World) (h : St w0 g la w) (h0 : 0 ≤ la) (h1 : la ≤ 1000) :
    Calls Try.prog 12 #[.pointer (some ⟨g, 0, none⟩), .int .i64 x] w fun e w' => ∃ (a b : Int), e = .returned (.tuple #[.int .i64 a, .int .i64 b]) ∧ StP w0 g la e w' := by
  obtain ⟨row, l, hb, hi, hl, hk⟩ := h
  by_cases hf : (l.length : Int) < 50
  · refine (Put_any w0.heap.size g row 50 la l x w hb hf (by omega) h0 (by omega) hk.size).mono ?_
    rintro e w' ⟨rfl, row', hb', hk', _⟩
    exact ⟨_, _, rfl, _, la + 1, rfl, by omega, by omega, row', _, hb', hi.put h0 x, by rw [List.length_append]; simp; omega, hb.frame hk hk' (Nat.le_refl _)⟩
  · refine (Put_full w0.heap.size g row 50 la l x w hb (by omega)).mono ?_
    rintro e w' ⟨rfl, n, rfl⟩
    exact ⟨_, _, rfl, _, la, rfl, by omega, by omega, row, l, hb.drewN n, hi, hl, hk.drewN n⟩
theorem Twice_st (w0 : World) (g : Nat) (la : Int) (i : Int) (w : World) (h : St w0 g la w) (h0 : 0 ≤ la) (h1 : la ≤ 1000) :
    Calls Try.prog 13 #[.pointer (some ⟨g, 0, none⟩), .int .i64 i] w (StP w0 g la) := by
  obtain ⟨row, l, hb, hi, hl, hk⟩ := id h
  by_cases hin : 0 ≤ i ∧ i < (l.length : Int)
  · obtain ⟨k, rfl⟩ : ∃ k : Nat, i = k := ⟨i.toNat, by omega⟩
    exact Twice_put w0.heap.size g row 50 la l k w hb (by omega) _ (Put_st w0 g la _ w h h0 h1)
  · refine (Twice_no w0.heap.size g row 50 la l i w hb (by omega)).mono ?_
    rintro e w' ⟨rfl, rfl⟩
    exact ⟨_, la, rfl, by omega, by omega, h⟩
theorem Take_st (w0 : World) (g : Nat) (la : Int) (i : Int) (w : World) (h : St w0 g la w) :
    Calls Try.prog 14 #[.pointer (some ⟨g, 0, none⟩), .int .i64 i] w (StP w0 g la) := by
  obtain ⟨row, l, hb, hi, hl, hk⟩ := id h
  by_cases hin : 0 ≤ i ∧ i < (l.length : Int)
  · obtain ⟨k, rfl⟩ : ∃ k : Nat, i = k := ⟨i.toNat, by omega⟩
    refine (Take_yes w0.heap.size g row 50 la l k w hb (by omega) (by omega)).mono ?_
    rintro e w' ⟨rfl, hb', hk'⟩
    exact ⟨_, la, rfl, by omega, by omega, row, _, hb', hi.sub (List.eraseIdx_sublist _ _), by have := List.length_eraseIdx_le l k; omega, hb.frame hk hk' (Nat.le_refl _)⟩
  · refine (Take_no w0.heap.size g row 50 la l i w hb (by omega)).mono ?_
    rintro e w' ⟨rfl, rfl⟩
    exact ⟨_, la, rfl, by omega, by omega, h⟩
theorem Keep_st (w0 : World) (g : Nat) (la : Int) (w : World) (h : St w0 g la w) :
    Calls Try.prog 15 #[.pointer (some ⟨g, 0, none⟩), .func (.func 16) #[] #[]] w (StP w0 g la) := by
  obtain ⟨row, l, hb, hi, hl, hk⟩ := id h
  refine (Keep_any w0.heap.size g row 50 la la l w hb hi (by omega)).mono ?_
  rintro e w' ⟨rfl, hb', hk'⟩
  exact ⟨_, la, rfl, by omega, by omega, row, _, hb', hi.sub List.filter_sublist, by have : (kept6 l).length ≤ l.length := List.length_filter_le _ _; omega, hb.frame hk hk' (Nat.le_refl _)⟩

theorem No_int (B g : Nat) (row : Option Nat) (most last : Int) (l : List It) (i : Int) (q : Nat) (w : World) (h : Bg B w g row most last l) (hi : i = q) (hq : q < l.length) :
    Calls Try.prog 18 #[.pointer (some ⟨g, 0, none⟩), .int .i64 i] w fun e w' => e = .returned (.int .i64 (nth l q).1) ∧ w = w' := by
  subst hi
  exact No_yes B g row most last l q w h hq
theorem upto_at {la : Int} {l : List It} (h : Inc la l) {q : Nat} (hq : q < l.length) : upto l (nth l q).1 = q + 1 ∧ upto l ((nth l q).1 - 1) = q := by
  have lt : ∀ i j, i < j → j < l.length → (nth l i).1 < (nth l j).1 := h.1
  constructor
  · refine upto_of (by omega) (fun i hi => ?_) (fun i hi1 hi2 => lt q i (by omega) hi2)
    rcases Nat.lt_or_ge i q with h1 | h1
    · have := lt i q h1 hq
      omega
    · obtain rfl : i = q := by omega
      exact Int.le_refl _
  · refine upto_of (by omega) (fun i hi => ?_) (fun i hi1 hi2 => ?_)
    · have := lt i q hi hq
      omega
    · rcases Nat.lt_or_ge q i with h1 | h1
      · have := lt q i h1 hi2
        omega
      · obtain rfl : i = q := by omega
        omega

set_option maxRecDepth 100000 in
set_option maxHeartbeats 4000000 in
theorem BagRises_any (v : Value) (n : Nat) (it : Nat → Op') (w : World) (h : OpsAt w v n it) :
    Calls Try.prog 4 #[v] w fun e w' => e = .returned (.bool true) ∧ Kept NoB w w' := by
  obtain ⟨a, cap, rfl, hn, hc⟩ := h
  have HC := Lib.hid hc
  clear hc
  go_enter Try.func4, Try.ntmps4
  go_wp2_with fail
  refine (BNew_any w.heap.size 50 w (Nat.le_refl _)).mono ?_
  rintro e w1 ⟨rfl, hb1, hk1⟩
  rw [show max (50 : Int) 0 = 50 from rfl] at hb1
  obtain ⟨g, hg⟩ : ∃ g, g = w.heap.size := ⟨_, rfl⟩
  have HS1 := Lib.hid (show St w g 0 w1 from ⟨none, [], by rw [hg]; exact hb1, Inc.nil, by decide, hk1⟩)
  have hgg : g = w.heap.size := hg
  clear hb1 hk1
  rw [← hg]
  clear hg hgg
  go_wp2
  go_loopw [4] (fun i wr => ∃ k : Nat, i = .int .i64 k ∧ k ≤ n ∧ k ≤ 60 ∧ ∃ la : Int, 0 ≤ la ∧ la ≤ k ∧ St w g la wr) (fun i _ => 60 - (intOf i).toNat)
  case atStart => exact ⟨0, rfl, by omega, by omega, 0, by omega, by omega, HS1.out⟩
  case round =>
    obtain ⟨k, rfl, hk, hk60, la, hla0, hlak, hst⟩ := hrel
    have HS := Lib.hid hst
    by_cases hlt : k < n
    · by_cases h60 : k < 60
      · obtain ⟨b, o, rfl, hb, hcell⟩ := HC.out (by omega)
        obtain ⟨e0, e1, e2⟩ := hcell k hlt
        have hkk := hst
        obtain ⟨row, l, hbg, hinc, hlen, hkw⟩ := hkk
        have c0 := hkw.cell (p := ⟨b, o + k * 3, none⟩) (fun h => h) e0
        have c1 := hkw.cell (p := ⟨b, o + k * 3 + 1, none⟩) (fun h => h) e1
        have c2 := hkw.cell (p := ⟨b, o + k * 3 + 2, none⟩) (fun h => h) e2
        obtain ⟨kd, hkd⟩ : ∃ kd, kd = (it k).kind := ⟨_, rfl⟩
        obtain ⟨x, hx⟩ : ∃ x, x = (it k).i := ⟨_, rfl⟩
        obtain ⟨y, hy⟩ : ∃ y, y = (it k).v := ⟨_, rfl⟩
        rw [← hkd] at c0
        rw [← hx] at c1
        rw [← hy] at c2
        have HLA := Lib.hid (Last_any _ g row 50 la l wr hbg)
        have HK := Lib.hid hkw
        clear hcell e0 e1 e2 hkd hx hy hb hbg hinc hlen hkw hst
        go_wp2_with fail
        refine HLA.out.mono ?_
        rintro e w2 ⟨rfl, rfl⟩
        go_upto_block 2 with fail
        go_cut [] (fun wc => ∃ la' : Int, la ≤ la' ∧ la' ≤ la + 1 ∧ St w g la' wc)
        case first =>
          have hl1000 : la ≤ 1000 := by omega
          go_wp2_with fail
          · refine (Put_st w g la y wr HS.out hla0 hl1000).mono ?_
            rintro e w' ⟨_, _, _, v, la', rfl, h1, h2, h3⟩
            go_wp2
            go_meet
            case rel => exact ⟨la', h1, h2, h3⟩
          · refine (Twice_st w g la x wr HS.out hla0 hl1000).mono ?_
            rintro e w' ⟨v, la', rfl, h1, h2, h3⟩
            go_wp2
            go_meet
            case rel => exact ⟨la', h1, h2, h3⟩
          · refine (Take_st w g la x wr HS.out).mono ?_
            rintro e w' ⟨v, la', rfl, h1, h2, h3⟩
            go_wp2
            go_meet
            case rel => exact ⟨la', h1, h2, h3⟩
          · refine (Keep_st w g la wr HS.out).mono ?_
            rintro e w' ⟨v, la', rfl, h1, h2, h3⟩
            go_wp2
            go_meet
            case rel => exact ⟨la', h1, h2, h3⟩
        case rest =>
          obtain ⟨la', hla1, hla2, hst'⟩ := hcut
          obtain ⟨row', l', hbg', hinc', hlen', hkw'⟩ := hst'
          have HLA' := Lib.hid (Last_any _ g row' 50 la' l' wc hbg')
          have HBG := Lib.hid hbg'
          have HINC := Lib.hid hinc'
          have HKW := Lib.hid hkw'
          have hx1 : decide (la' < la) = false := by simp; omega
          have hx2 : decide (la + 1 < la') = false := by simp; omega
          clear hbg' hinc' hkw' c0 c1 c2
          go_wp2_with fail
          refine HLA'.out.mono ?_
          rintro e w2 ⟨rfl, rfl⟩
          go_wp2_with fail
          refine HLA'.out.mono ?_
          rintro e w2 ⟨rfl, rfl⟩
          go_wp2_with fail
          obtain ⟨wo, rfl⟩ : ∃ wo : World, wo = wc := ⟨_, rfl⟩
          go_loopw [6] (fun i wi => ∃ q : Nat, i = .int .i64 q ∧ q ≤ l'.length ∧ Bg w.heap.size wi g row' 50 la' l' ∧ Kept NoB w wi) (fun i _ => l'.length - (intOf i).toNat)
          case atStart => exact ⟨0, rfl, Nat.zero_le _, HBG.out, HKW.out⟩
          case round =>
            obtain ⟨q, rfl, hq, hbi, hki⟩ := hrel
            have HBI := Lib.hid hbi
            have HKI := Lib.hid hki
            clear hbi hki
            by_cases hql : q < l'.length
            · obtain ⟨hu1, hu2⟩ := upto_at HINC.out hql
              obtain ⟨hno1, hno2⟩ := HINC.out.2 q hql
              have hprev : ∀ p, p < q → (nth l' p).1 < (nth l' q).1 := fun p hp => HINC.out.1 p q hp hql
              have HNQ := Lib.hid (No_yes w.heap.size g row' 50 la' l' q wr HBI.out hql)
              obtain ⟨no, hno⟩ : ∃ no, no = (nth l' q).1 := ⟨_, rfl⟩
              rw [← hno] at hu1 hu2 hno1 hno2 HNQ
              have HNO := Lib.hid hno
              have HU1 := Lib.hid hu1
              have HU2 := Lib.hid hu2
              have HPREV := Lib.hid hprev
              have HLEN := Lib.hid (Len_any w.heap.size g row' 50 la' l' wr HBI.out)
              have HLST := Lib.hid (Last_any w.heap.size g row' 50 la' l' wr HBI.out)
              have t1 : decide (no < 1) = false := by simp; omega
              have t2 : decide (la' < no) = false := by simp; omega
              clear hno hu1 hu2 hprev
              go_wp2_with fail
              refine HLEN.out.mono ?_
              rintro e w3 ⟨rfl, rfl⟩
              go_wp2_with fail
              refine HNQ.out.mono ?_
              rintro e w3 ⟨rfl, rfl⟩
              go_wp2_with fail
              refine HLST.out.mono ?_
              rintro e w3 ⟨rfl, rfl⟩
              cases q with
              | zero =>
                go_wp2_with fail
                refine (Upto_any w.heap.size g row' 50 la' la' l' no _ HBI.out HINC.out (by omega)).mono ?_
                rintro e w4 ⟨rfl, hk4⟩
                rw [HU1.out]
                have HB4 := Lib.hid (HBI.out.keptNo hk4)
                have HK4 := Lib.hid (HKI.out.trans hk4 (fun _ _ h => h))
                clear hk4
                go_wp2_with fail
                refine (Upto_any w.heap.size g row' 50 la' la' l' (no - 1) _ HB4.out HINC.out (by omega)).mono ?_
                rintro e w5 ⟨rfl, hk5⟩
                rw [HU2.out]
                have HB5 := Lib.hid (HB4.out.keptNo hk5)
                have HK5 := Lib.hid (HK4.out.trans hk5 (fun _ _ h => h))
                clear hk5
                go_wp2
                exact ⟨⟨0 + 1, by go_num, by omega, HB5.out, HK5.out⟩, by simp [intOf]; omega⟩
              | succ p =>
                have HPP := Lib.hid (HPREV.out p (by omega))
                have t3 : (0 : Int) < ((p + 1 : Nat) : Int) := by omega
                go_wp2_with fail
                refine (No_int w.heap.size g row' 50 la' l' _ p wr HBI.out (by omega) (by omega)).mono ?_
                rintro e w3 ⟨rfl, rfl⟩
                have t4 := HPP.out
                rw [← HNO.out] at t4
                obtain ⟨pv, hpv⟩ : ∃ pv, pv = (nth l' p).1 := ⟨_, rfl⟩
                rw [← hpv] at t4 ⊢
                have t5 : decide (no ≤ pv) = false := by simp; omega
                clear hpv
                go_wp2_with fail
                refine (Upto_any w.heap.size g row' 50 la' la' l' no _ HBI.out HINC.out (by omega)).mono ?_
                rintro e w4 ⟨rfl, hk4⟩
                rw [HU1.out]
                have HB4 := Lib.hid (HBI.out.keptNo hk4)
                have HK4 := Lib.hid (HKI.out.trans hk4 (fun _ _ h => h))
                clear hk4
                go_wp2_with fail
                refine (Upto_any w.heap.size g row' 50 la' la' l' (no - 1) _ HB4.out HINC.out (by omega)).mono ?_
                rintro e w5 ⟨rfl, hk5⟩
                rw [HU2.out]
                have HB5 := Lib.hid (HB4.out.keptNo hk5)
                have HK5 := Lib.hid (HK4.out.trans hk5 (fun _ _ h => h))
                clear hk5
                go_wp2
                exact ⟨⟨(p + 1) + 1, by go_num, by omega, HB5.out, HK5.out⟩, by simp [intOf]; omega⟩
            · obtain rfl : q = l'.length := by omega
              have HLEN := Lib.hid (Len_any w.heap.size g row' 50 la' l' wr HBI.out)
              go_wp2_with fail
              refine HLEN.out.mono ?_
              rintro e w3 ⟨rfl, rfl⟩
              go_wp2
              exact ⟨⟨k + 1, by go_num, by omega, by omega, la', by omega, by omega, row', l', HBI.out, HINC.out, hlen', HKI.out⟩, by simp [intOf]; omega⟩
      · obtain rfl : k = 60 := by omega
        obtain ⟨_, _, _, _, _, hkw⟩ := hst
        have HK := Lib.hid hkw
        clear hkw
        go_wp2_with fail
        refine (awake6_any _).mono ?_
        rintro e w2 ⟨rfl, hk2⟩
        go_wp2
        go_ret
        exact ⟨rfl, HK.out.trans hk2 (fun _ _ h => h)⟩
    · obtain rfl : k = n := by omega
      obtain ⟨_, _, _, _, _, hkw⟩ := hst
      have HK := Lib.hid hkw
      clear hkw
      go_wp2_with fail
      refine (awake6_any _).mono ?_
      rintro e w2 ⟨rfl, hk2⟩
      go_wp2
      go_ret
      exact ⟨rfl, HK.out.trans hk2 (fun _ _ h => h)⟩
end Go.Proofs.Yteinjmhogkneoaa
