/-
  What catenaryref02's Seal, Fits and Turn, and crc.Turn do.
-/
import Derived.Test.YtpcacndbagiajaaCrcB
namespace Go.Proofs.Ytpcacndbagiajaa
open Go.RowKit

/-- A store into a row of bytes of the call's own. -/
theorem Own.set {w : World} {F : Nat → Prop} {g n c : Nat} {l : List Int} (h : Own w F (.slice (some ⟨g, 0, none⟩) n c) l) (hn : n = l.length) (j : Nat) (x : Int) (h0 : 0 ≤ x) (h1 : x < 256) :
    Own (w.setCell ⟨g, j, none⟩ (.int .u8 x)) F (.slice (some ⟨g, 0, none⟩) n c) (l.set j x) := by
  subst hn
  refine ⟨h.1.set j h0 h1, ?_, h.2.2⟩
  have := (h.2.1.stored j (.int .u8 x)).1
  rw [List.length_set, List.map_set]
  exact this

theorem bit_mod (p k : Nat) : (((p : Int) / 2 ^ k).tmod 2 == 1) = decide (p / 2 ^ k % 2 = 1) := by
  have e : (p : Int) / 2 ^ k = ((p / 2 ^ k : Nat) : Int) := by simp
  rw [e]
  generalize p / 2 ^ k = q
  rw [Int.tmod_eq_emod_of_nonneg (by omega)]
  by_cases h : q % 2 = 1
  · rw [decide_eq_true h, beq_iff_eq]; omega
  · rw [decide_eq_false h, beq_eq_false_iff_ne]; omega

theorem bit_and (p k : Nat) (hp : p < 4294967296) : (bits BinOp.and IntKind.u32 ((p : Int) / 2 ^ k) 1 == 1) = decide (p / 2 ^ k % 2 = 1) := by
  have e : (p : Int) / 2 ^ k = ((p / 2 ^ k : Nat) : Int) := by simp
  rw [e, and_one _ (Nat.lt_of_le_of_lt (Nat.div_le_self _ _) hp)]
  generalize p / 2 ^ k = q
  by_cases h : q % 2 = 1
  · rw [decide_eq_true h, beq_iff_eq]; omega
  · rw [decide_eq_false h, beq_eq_false_iff_ne]; omega
theorem flip_bits (x j : Nat) (hx : x < 256) (hj : j < 8) : bits BinOp.xor IntKind.u8 (x : Int) ((2 : Int) ^ j % 256) = ((x ^^^ 2 ^ j : Nat) : Int) := by
  have h2 : 2 ^ j < 256 := Nat.pow_lt_pow_right (m := j) (n := 8) (by decide) hj
  have e : (2 : Int) ^ j % 256 = ((2 ^ j : Nat) : Int) := by
    rw [Int.natCast_pow]
    have : ((2 ^ j : Nat) : Int) = (2 : Int) ^ j := by rw [Int.natCast_pow]; rfl
    rw [show ((2 : Nat) : Int) = 2 from rfl, ← this]
    generalize 2 ^ j = q at h2
    omega
  rw [e]
  exact u8_xor_nat x (2 ^ j) hx h2
theorem bit_ltN {x : Nat} (h1 : x < 256) {j : Nat} (hj : j < 8) : x ^^^ 2 ^ j < 256 :=
  Nat.xor_lt_two_pow (n := 8) h1 (Nat.pow_lt_pow_right (by decide) hj)
theorem turn_yes {l : List Int} {b p k i x : Nat} (hbit : p / 2 ^ k % 2 = 1) (hat : b + k < 8 * l.length) (hi : i = (b + k) / 8) (hx : (x : Int) = (turn l b p k).getD i 0) :
    turn l b p (k + 1) = (turn l b p k).set i ((x ^^^ 2 ^ ((b + k) % 8) : Nat) : Int) := by
  rw [turn, if_pos hbit, flip, if_pos (by rw [turn_len]; omega), ← hi, ← hx, Int.toNat_natCast]
theorem turn_no {l : List Int} {b p k : Nat} (h : p / 2 ^ k % 2 = 1 → 8 * l.length ≤ b + k) : turn l b p (k + 1) = turn l b p k := by
  rw [turn]
  split
  · rename_i hb
    rw [flip, if_neg (by rw [turn_len]; have := h hb; omega)]
  · rfl

set_option maxRecDepth 100000 in
/-- Turn. -/
theorem RTurn_any (v : Value) (l : List Int) (b p : Nat) (F : Nat → Prop) (w : World) (h : BSl w F v l) (hl : l.length ≤ 1000000) (hb : b ≤ 8 * l.length) (_ : p < 4294967296) :
    Calls Try.prog 34 #[v, .int .i64 b, .int .u32 p] w fun e w' => ∃ v', e = .returned v' ∧ Own w' (fun k => w.heap.size ≤ k) v' (turn l b p 32) ∧ Kept NoB w w' := by
  obtain ⟨i0, hi0, hz0, hz1, hz2⟩ := info_parts Try.info5
  have HB := Lib.hid h
  obtain ⟨a, cap, rfl, hc, _⟩ := h
  have hb0 : (0 : Int) ≤ (b : Int) := by omega
  have hb1 : (b : Int) ≤ 8 * (l.length : Int) := by omega
  go_enter Try.func34, Try.ntmps34
  go_wp2_with (at_builtin; refine wpList_append_bsl _ rfl (.const (.slice none 0 0)) (.tmp 10) _ rfl 5 i0 _ Try.underlying22 hi0 hz0 hz1 hz2 rfl (.slice none 0 0) 0 [] rfl (World.ownsRow_nil _ _ _ _) F _ l rfl HB.out (by omega) ?_; intro a' c' w1 hown1 hg1 hat1)
  have hk1 : Kept NoB w w1 := (Kept.refl _ _).grown hg1 (fun k hk => by simp [Value.ownBlock] at hk)
  simp only [Nat.zero_add, List.nil_append] at hown1 hat1
  have hO : Own w1 (fun k => w.heap.size ≤ k) (.slice a' l.length c') l := ⟨HB.out.isB, hown1, fun k hk => by
    rcases hat1 with e | e <;> rw [e] at hk <;> simp [Value.ownBlock] at hk <;> omega⟩
  have HO := Lib.hid hO
  have HK1 := Lib.hid hk1
  clear hO hk1 hown1 hg1 hat1
  go_loopw [8] (fun i wr => ∃ k : Nat, k ≤ 32 ∧ i = .int .i64 k ∧ Own wr (fun k => w.heap.size ≤ k) (.slice a' l.length c') (turn l b p k) ∧ Kept NoB w wr) (fun i _ => 32 - (intOf i).toNat)
  case atStart => exact ⟨0, by omega, rfl, HO.out, HK1.out⟩
  case round =>
    obtain ⟨k, hk, rfl, hT, hKr⟩ := hrel
    have HT := Lib.hid hT
    have HKr := Lib.hid hKr
    clear hT hKr
    have hln := turn_len l b p k
    have HLN := Lib.hid hln
    clear hln
    by_cases hlt : k < 32
    · have hk0 : (0 : Int) ≤ (k : Int) := by omega
      have hk1 : (k : Int) < 32 := by omega
      by_cases hat : b + k < 8 * l.length
      · have h1 : (b : Int) + (k : Int) < 8 * (l.length : Int) := by omega
        by_cases hbit : p / 2 ^ k % 2 = 1
        · have hq : (((p : Int) / 2 ^ k).tmod 2 == 1) = true := (bit_mod p k).trans (decide_eq_true hbit)
          obtain ⟨i, hi⟩ : ∃ i, i = (b + k) / 8 := ⟨_, rfl⟩
          obtain ⟨g, cp, e1, _, _⟩ := HT.out.2.1.form (by rw [HLN.out]; omega)
          rw [HLN.out] at e1
          simp only [Value.slice.injEq, true_and] at e1
          obtain ⟨rfl, rfl⟩ := e1
          have hc0 := HT.out.2.1
          rw [HLN.out] at hc0
          have hcell := hc0.cellAt i (by omega)
          have hfz := hc0.frozenAt i
          have hx := HT.out.1.getD i
          obtain ⟨x, hx2⟩ : ∃ x : Nat, (x : Int) = (turn l b p k).getD i 0 := ⟨((turn l b p k).getD i 0).toNat, by omega⟩
          have hcl : wr.cell? ⟨g, i, none⟩ = some (.int .u8 x) := by
            rw [hcell, hx2, List.getElem?_map, List.getElem?_eq_getElem (by rw [HLN.out]; omega), List.getD_eq_getElem?_getD, List.getElem?_eq_getElem (by rw [HLN.out]; omega)]
            rfl
          have hx256 : x < 256 := by omega
          have HX := Lib.hid hx2
          have HI := Lib.hid hi
          have HBIT := Lib.hid hbit
          have hdiv : ((b : Int) + (k : Int)) / 8 = (i : Int) := by omega
          have hi0 : (0 : Int) ≤ (i : Int) := by omega
          have hi1 : (i : Int) < (l.length : Int) := by omega
          clear hbit hcell hc0 hx hx2 hi
          go_wp2_with fail
          go_region
          all_goals go_wp2
          all_goals
            rw [flip_bits x _ hx256 (by omega)]
            refine ⟨⟨k + 1, by omega, by go_num, ?_, ((HKr.out.setCell (p := ⟨g, i, none⟩) (.inr (by have := HT.out.2.2 g rfl; exact this)) _)).drew⟩, by simp [intOf]; omega⟩
            rw [turn_yes HBIT.out hat HI.out HX.out]
            exact HT.out.set HLN.out.symm i _ (by omega) (by have := bit_ltN hx256 (j := (b + k) % 8) (by omega); omega)
        · have hq : (((p : Int) / 2 ^ k).tmod 2 == 1) = false := (bit_mod p k).trans (decide_eq_false hbit)
          have HN := Lib.hid (turn_no (l := l) (b := b) (fun h => absurd h hbit))
          clear hbit
          go_wp2
          exact ⟨⟨k + 1, by omega, by go_num, by rw [HN.out]; exact HT.out, HKr.out⟩, by simp [intOf]; omega⟩
      · have h1 : 8 * (l.length : Int) ≤ (b : Int) + (k : Int) := by omega
        have HN := Lib.hid (turn_no (l := l) (b := b) (p := p) (k := k) (fun _ => by omega))
        go_wp2
        exact ⟨⟨k + 1, by omega, by go_num, by rw [HN.out]; exact HT.out, HKr.out⟩, by simp [intOf]; omega⟩
    · obtain rfl : k = 32 := by omega
      go_wp2
      go_ret
      exact ⟨_, rfl, HT.out, HKr.out⟩

set_option maxRecDepth 100000 in
/-- The package's Turn, where the bit is there. -/
theorem CTurn_any (v : Value) (l : List Int) (b p : Nat) (F : Nat → Prop) (w : World) (h : BSl w F v l) (hl : l.length ≤ 1000000) (hb : b < 8 * l.length) (hp : p < 4294967296) :
    Calls Try.prog 33 #[v, .int .i64 b, .int .u32 p] w fun e w' => ∃ v', e = .returned v' ∧ Own w' (fun k => w.heap.size ≤ k) v' (turn l b p 32) ∧ Kept NoB w w' := by
  have HB := Lib.hid h
  obtain ⟨a, cap, rfl, hc, _⟩ := h
  have hb0 : (0 : Int) ≤ (b : Int) := by omega
  have hb1 : (b : Int) < 8 * (l.length : Int) := by omega
  have hb2 : (b : Int) / 8 < (l.length : Int) := by omega
  go_enter Try.func33, Try.ntmps33
  go_wp2_with fail
  refine (Clone_own _ l F _ HB.out hl).mono ?_
  rintro e w1 ⟨v1, rfl, hO, hk1⟩
  obtain ⟨a', c', rfl⟩ := own_form hO.2.1
  have HO := Lib.hid hO
  have HK1 := Lib.hid hk1
  clear hO hk1
  go_wp2_with fail
  go_loopw [22] (fun i wr => ∃ k : Nat, k ≤ 32 ∧ i = .int .i64 k ∧ Own wr (fun k => w.heap.size ≤ k) (.slice a' l.length c') (turn l b p k) ∧ Kept NoB w wr) (fun i _ => 32 - (intOf i).toNat)
  case atStart => exact ⟨0, by omega, rfl, HO.out, HK1.out⟩
  case round =>
    obtain ⟨k, hk, rfl, hT, hKr⟩ := hrel
    have HT := Lib.hid hT
    have HKr := Lib.hid hKr
    clear hT hKr
    have hln := turn_len l b p k
    have HLN := Lib.hid hln
    clear hln
    by_cases hlt : k < 32
    · have hk0 : (0 : Int) ≤ (k : Int) := by omega
      have hk1 : (k : Int) < 32 := by omega
      by_cases hbit : p / 2 ^ k % 2 = 1
      · have hq : (bits BinOp.and IntKind.u32 ((p : Int) / 2 ^ k) 1 == 1) = true := (bit_and p k hp).trans (decide_eq_true hbit)
        by_cases hat : b + k < 8 * l.length
        · have h1 : ((b : Int) + (k : Int)) / 8 < (l.length : Int) := by omega
          obtain ⟨i, hi⟩ : ∃ i, i = (b + k) / 8 := ⟨_, rfl⟩
          obtain ⟨g, cp, e1, _, _⟩ := HT.out.2.1.form (by rw [HLN.out]; omega)
          rw [HLN.out] at e1
          simp only [Value.slice.injEq, true_and] at e1
          obtain ⟨rfl, rfl⟩ := e1
          have hc0 := HT.out.2.1
          rw [HLN.out] at hc0
          have hcell := hc0.cellAt i (by omega)
          have hfz := hc0.frozenAt i
          have hx := HT.out.1.getD i
          obtain ⟨x, hx2⟩ : ∃ x : Nat, (x : Int) = (turn l b p k).getD i 0 := ⟨((turn l b p k).getD i 0).toNat, by omega⟩
          have hcl : wr.cell? ⟨g, i, none⟩ = some (.int .u8 x) := by
            rw [hcell, hx2, List.getElem?_map, List.getElem?_eq_getElem (by rw [HLN.out]; omega), List.getD_eq_getElem?_getD, List.getElem?_eq_getElem (by rw [HLN.out]; omega)]
            rfl
          have hx256 : x < 256 := by omega
          have HX := Lib.hid hx2
          have HI := Lib.hid hi
          have HBIT := Lib.hid hbit
          have hdiv : ((b : Int) + (k : Int)) / 8 = (i : Int) := by omega
          have hi0 : (0 : Int) ≤ (i : Int) := by omega
          have hi1 : (i : Int) < (l.length : Int) := by omega
          clear hbit hcell hc0 hx hx2 hi
          go_wp2_with fail
          go_region
          all_goals go_wp2
          all_goals
            rw [flip_bits x _ hx256 (by omega)]
            refine ⟨⟨k + 1, by omega, by go_num, ?_, ((HKr.out.setCell (p := ⟨g, i, none⟩) (.inr (by have := HT.out.2.2 g rfl; exact this)) _)).drew⟩, by simp [intOf]; omega⟩
            rw [turn_yes HBIT.out hat HI.out HX.out]
            exact HT.out.set HLN.out.symm i _ (by omega) (by have := bit_ltN hx256 (j := (b + k) % 8) (by omega); omega)
        · have h1 : (l.length : Int) ≤ ((b : Int) + (k : Int)) / 8 := by omega
          have HN := Lib.hid (turn_no (l := l) (b := b) (p := p) (k := k) (fun _ => by omega))
          clear hbit
          go_wp2
          exact ⟨⟨k + 1, by omega, by go_num, by rw [HN.out]; exact HT.out, HKr.out⟩, by simp [intOf]; omega⟩
      · have hq : (bits BinOp.and IntKind.u32 ((p : Int) / 2 ^ k) 1 == 1) = false := (bit_and p k hp).trans (decide_eq_false hbit)
        have HN := Lib.hid (turn_no (l := l) (b := b) (fun h => absurd h hbit))
        clear hbit
        go_wp2
        exact ⟨⟨k + 1, by omega, by go_num, by rw [HN.out]; exact HT.out, HKr.out⟩, by simp [intOf]; omega⟩
    · obtain rfl : k = 32 := by omega
      go_wp2
      go_ret
      exact ⟨_, rfl, HT.out, HKr.out⟩

set_option maxRecDepth 100000 in
/-- Both, where no such bit is there: the bytes as they were. -/
theorem RTurn_no (v : Value) (l : List Int) (b : Int) (p : Int) (F : Nat → Prop) (w : World) (h : BSl w F v l) (hl : l.length ≤ 1000000) (hb : b < 0 ∨ 8 * (l.length : Int) < b) :
    Calls Try.prog 34 #[v, .int .i64 b, .int .u32 p] w fun e w' => ∃ v', e = .returned v' ∧ Own w' (fun k => w.heap.size ≤ k) v' l ∧ Kept NoB w w' := by
  obtain ⟨i0, hi0, hz0, hz1, hz2⟩ := info_parts Try.info5
  have HB := Lib.hid h
  obtain ⟨a, cap, rfl, hc, _⟩ := h
  have hbb : b < 0 ∨ (0 ≤ b ∧ 8 * (l.length : Int) < b) := by omega
  rcases hbb with hbb | ⟨hb0, hbb⟩
  all_goals
    clear hb
    go_enter Try.func34, Try.ntmps34
    go_wp2_with (at_builtin; refine wpList_append_bsl _ rfl (.const (.slice none 0 0)) (.tmp 10) _ rfl 5 i0 _ Try.underlying22 hi0 hz0 hz1 hz2 rfl (.slice none 0 0) 0 [] rfl (World.ownsRow_nil _ _ _ _) F _ l rfl HB.out (by omega) ?_; intro a' c' w1 hown1 hg1 hat1)
    have hk1 : Kept NoB w w1 := (Kept.refl _ _).grown hg1 (fun k hk => by simp [Value.ownBlock] at hk)
    simp only [Nat.zero_add, List.nil_append] at hown1 hat1
    have hO : Own w1 (fun k => w.heap.size ≤ k) (.slice a' l.length c') l := ⟨HB.out.isB, hown1, fun k hk => by
      rcases hat1 with e | e <;> rw [e] at hk <;> simp [Value.ownBlock] at hk <;> omega⟩
    go_ret
    exact ⟨_, rfl, hO, hk1⟩
set_option maxRecDepth 100000 in
theorem CTurn_no (v : Value) (l : List Int) (b : Int) (p : Int) (F : Nat → Prop) (w : World) (h : BSl w F v l) (hl : l.length ≤ 1000000) (hb : b < 0 ∨ 8 * (l.length : Int) ≤ b) (hbm : b ≤ 9223372036854775807) :
    Calls Try.prog 33 #[v, .int .i64 b, .int .u32 p] w fun e w' => ∃ v', e = .returned v' ∧ Own w' (fun k => w.heap.size ≤ k) v' l ∧ Kept NoB w w' := by
  have HB := Lib.hid h
  obtain ⟨a, cap, rfl, hc, _⟩ := h
  have hbb : b < 0 ∨ (0 ≤ b ∧ (l.length : Int) ≤ b / 8) := by omega
  rcases hbb with hbb | ⟨hb0, hbb⟩
  all_goals
    clear hb
    go_enter Try.func33, Try.ntmps33
    go_wp2_with fail
    refine (Clone_own _ l F _ HB.out hl).mono ?_
    rintro e w1 ⟨v1, rfl, hO, hk1⟩
    go_wp2
    go_ret
    exact ⟨_, rfl, hO, hk1⟩
/-- What a turn leaves, of any place. -/
def turnZ (l : List Int) (b : Int) (p : Nat) : List Int := if 0 ≤ b ∧ b < 8 * (l.length : Int) then turn l b.toNat p 32 else l
theorem turn_all {l : List Int} {p : Nat} (k : Nat) : turn l (8 * l.length) p k = l := by
  induction k with
  | zero => rfl
  | succ k ih => rw [turn_no (fun _ => by omega), ih]
theorem RTurn_Z (v : Value) (l : List Int) (b : Int) (p : Nat) (F : Nat → Prop) (w : World) (h : BSl w F v l) (hl : l.length ≤ 1000000) (hp : p < 4294967296) :
    Calls Try.prog 34 #[v, .int .i64 b, .int .u32 p] w fun e w' => ∃ v', e = .returned v' ∧ Own w' (fun k => w.heap.size ≤ k) v' (turnZ l b p) ∧ Kept NoB w w' := by
  by_cases hb : b < 0 ∨ 8 * (l.length : Int) < b
  · rw [turnZ, if_neg (by omega)]
    exact RTurn_no v l b p F w h hl hb
  · obtain ⟨c, rfl⟩ := Int.eq_ofNat_of_zero_le (show 0 ≤ b by omega)
    have e : turnZ l c p = turn l c p 32 := by
      by_cases e2 : c < 8 * l.length
      · rw [turnZ, if_pos (by omega)]; rfl
      · obtain rfl : c = 8 * l.length := by omega
        rw [turnZ, if_neg (by omega), turn_all]
    rw [e]
    exact RTurn_any v l c p F w h hl (by omega) hp
theorem CTurn_Z (v : Value) (l : List Int) (b : Int) (p : Nat) (F : Nat → Prop) (w : World) (h : BSl w F v l) (hl : l.length ≤ 1000000) (hp : p < 4294967296) (hbm : b ≤ 9223372036854775807) :
    Calls Try.prog 33 #[v, .int .i64 b, .int .u32 p] w fun e w' => ∃ v', e = .returned v' ∧ Own w' (fun k => w.heap.size ≤ k) v' (turnZ l b p) ∧ Kept NoB w w' := by
  by_cases hb : b < 0 ∨ 8 * (l.length : Int) ≤ b
  · rw [turnZ, if_neg (by omega)]
    exact CTurn_no v l b p F w h hl hb hbm
  · obtain ⟨c, rfl⟩ := Int.eq_ofNat_of_zero_le (show 0 ≤ b by omega)
    rw [turnZ, if_pos (by omega)]
    exact CTurn_any v l c p F w h hl (by omega) hp

theorem be_four (q : Nat) : be q 4 = [((q / 16777216 % 256 : Nat) : Int), ((q / 65536 % 256 : Nat) : Int), ((q / 256 % 256 : Nat) : Int), ((q % 256 : Nat) : Int)] := by
  simp [be]

set_option maxRecDepth 100000 in
/-- Seal, by definition. -/
theorem RSeal_any (v : Value) (l : List Int) (F : Nat → Prop) (w : World) (h : BSl w F v l) (hl : l.length ≤ 1000000) :
    Calls Try.prog 30 #[v] w fun e w' => ∃ v', e = .returned v' ∧ Own w' (fun k => w.heap.size ≤ k) v' (l ++ le4 (more 0 l)) ∧ Kept NoB w w' := by
  obtain ⟨i0, hi0, hz0, hz1, hz2⟩ := info_parts Try.info5
  have HB := Lib.hid h
  obtain ⟨a, cap, rfl, hc, _⟩ := h
  go_enter Try.func30, Try.ntmps30
  go_wp2_with (at_builtin; refine wpList_append_bsl _ rfl (.const (.slice none 0 0)) (.tmp 5) _ rfl 5 i0 _ Try.underlying22 hi0 hz0 hz1 hz2 rfl (.slice none 0 0) 0 [] rfl (World.ownsRow_nil _ _ _ _) F _ l rfl HB.out (by omega) ?_; intro a' c' w1 hown1 hg1 hat1)
  have hk1 : Kept NoB w w1 := (Kept.refl _ _).grown hg1 (fun k hk => by simp [Value.ownBlock] at hk)
  simp only [Nat.zero_add, List.nil_append] at hown1 hat1
  have hO : Own w1 (fun k => w.heap.size ≤ k) (.slice a' l.length c') l := ⟨HB.out.isB, hown1, fun k hk => by
    rcases hat1 with e | e <;> rw [e] at hk <;> simp [Value.ownBlock] at hk <;> omega⟩
  have HO := Lib.hid hO
  have HK1 := Lib.hid hk1
  have HB1 := Lib.hid (HB.out.kept hk1 (fun _ _ h => h))
  have hlt : more 0 l < 4294967296 := more_lt _ _ (by decide) HB.out.isB
  clear hO hk1 hown1 hg1 hat1
  go_wp2_with fail
  refine (ROf_any _ l F _ HB1.out).mono ?_
  rintro e w2 ⟨rfl, rfl⟩
  obtain ⟨q, hq⟩ : ∃ q, q = more 0 l := ⟨_, rfl⟩
  rw [← hq] at hlt ⊢
  have HQ := Lib.hid hq
  have hwq : IntKind.u64.wrap (q : Int) = (q : Int) := IntWalk.u64_in _ (by omega)
  clear hq
  go_wp2_with fail
  refine (Big_any q 4 _ (by omega) (by omega) (by show q < 256 ^ 4; omega)).mono ?_
  rintro e w3 ⟨bv, rfl, hbv, hk3⟩
  have hsz := HK1.out.size
  have hs3 := hk3.size
  obtain ⟨g, cp, rfl, _, hgl⟩ := hbv.2.1.form (by rw [be_len]; omega)
  have hgw : w1.heap.size ≤ g := hbv.2.2 g rfl
  have hown3 := hbv.2.1
  rw [be_four] at hown3
  have hq0 : (0 : Int) < 4 := by decide
  have hq1 : (1 : Int) < 4 := by decide
  have hq2 : (2 : Int) < 4 := by decide
  have hq3 : (3 : Int) < 4 := by decide
  have hc0 := hown3.cellAt 0 (by show 0 < 4; decide)
  have hc1 := hown3.cellAt 1 (by show 1 < 4; decide)
  have hc2 := hown3.cellAt 2 (by show 2 < 4; decide)
  have hc3 := hown3.cellAt 3 (by show 3 < 4; decide)
  simp only [List.map_cons, List.map_nil, List.getElem?_cons_zero, List.getElem?_cons_succ] at hc0 hc1 hc2 hc3
  rw [be_len]
  have HO3 := Lib.hid (HO.out.kept (hk3) (fun _ _ h => h))
  have HK3 := Lib.hid (HK1.out.trans hk3 (fun _ _ h => h))
  clear hown3 hbv hk3
  go_wp2_with fail
  have hownA := HO3.out.2.1
  have hg4 : w3.heap.size ≠ g := by omega
  have hsep : Value.ownBlock (.slice a' l.length c') ≠ some g := fun h2 => by have h3 := (HO.out.2.1.lt g h2).2; omega
  go_region_held3 (fun w' => w'.cell? ⟨g, 0, none⟩ = some (.int .u8 ((q / 16777216 % 256 : Nat) : Int)) ∧ w'.cell? ⟨g, 1, none⟩ = some (.int .u8 ((q / 65536 % 256 : Nat) : Int)) ∧ w'.cell? ⟨g, 2, none⟩ = some (.int .u8 ((q / 256 % 256 : Nat) : Int)) ∧ w'.cell? ⟨g, 3, none⟩ = some (.int .u8 ((q % 256 : Nat) : Int)))
    (first
      | exact ⟨(hgrow.cell_far ⟨g, 0, none⟩ (by show g < _; simp; omega) (Ne.symm hsep)).trans (cell_drew (cell_alloc hc0 _)), (hgrow.cell_far ⟨g, 1, none⟩ (by show g < _; simp; omega) (Ne.symm hsep)).trans (cell_drew (cell_alloc hc1 _)), (hgrow.cell_far ⟨g, 2, none⟩ (by show g < _; simp; omega) (Ne.symm hsep)).trans (cell_drew (cell_alloc hc2 _)), (hgrow.cell_far ⟨g, 3, none⟩ (by show g < _; simp; omega) (Ne.symm hsep)).trans (cell_drew (cell_alloc hc3 _))⟩
      | go_keep)
    ((refine step_append_lies _ (by rfl) _ _ _ (by rfl) 0 5 i0 _ 1 1 Try.underlying22 hi0 hz0 hz1 hz2 rfl (by omega) (.slice a' l.length c') l.length (l.map (Value.int .u8)) (by rfl) ((hownA.alloc _).drew)
        ⟨w3.heap.size, 0, none⟩ 4 4 ((le4 q).map (Value.int .u8)) (by rfl) (by rfl) (World.news_of_block (cs := #[.int .u8 ((q % 256 : Nat) : Int), .int .u8 ((q / 256 % 256 : Nat) : Int), .int .u8 ((q / 65536 % 256 : Nat) : Int), .int .u8 ((q / 16777216 % 256 : Nat) : Int)]) (t := 5) (fr := (0, 0)) (heap_alloc_new w3 _)) (by simp [le4, Value.oneCell'])
        (by omega) (by unfold maxLen; omega) (by omega) (Nat.zero_le _) (w3.heap.size + 1) (by simp) ?_; intro gg cap5 w5 hown5 hgrow hat hlt5))
  go_wp2
  go_ret
  have e4 : (le4 q).length = 4 := rfl
  have hk5 : Kept (fun k => w.heap.size ≤ k) w3 w5 := (((Kept.refl _ w3).alloc _).drew).grown hgrow (fun k hk => .inl (HO3.out.2.2 k hk))
  refine ⟨.slice (some ⟨gg, 0, none⟩) (l.length + 4) cap5, rfl, ⟨HB.out.isB.append (le4_isB _), ?_, fun k hk => ?_⟩, (HK3.out.trans hk5 (fun i hi h => by omega))⟩
  · rw [← HQ.out, List.length_append, List.map_append, e4]
    exact hown5
  · have hkg : gg = k := by simpa [Value.ownBlock] using hk
    subst hkg
    rcases hat with h2 | h2
    · exact HO3.out.2.2 _ h2
    · omega

theorem fits_ref {l : List Int} (h4 : 4 ≤ l.length) : decide (l.take (l.length - 4) ++ le4 (more 0 (l.take (l.length - 4))) = l) = fitsB l := by
  unfold fitsB
  rw [decide_eq_true h4, Bool.true_and]
  refine decide_eq_decide.2 ⟨fun h => ?_, fun h => ?_⟩
  · have e := congrArg (List.drop (l.length - 4)) h
    rw [List.drop_append_of_le_length (by rw [List.length_take]; omega), List.drop_take, show l.length - 4 - (l.length - 4) = 0 by omega, List.take_zero, List.nil_append] at e
    exact e
  · rw [h]
    exact List.take_append_drop _ _

set_option maxRecDepth 100000 in
/-- Fits, by definition. -/
theorem RFits_any (v : Value) (l : List Int) (F : Nat → Prop) (w : World) (h : BSl w F v l) (hl : l.length ≤ 1000000) :
    Calls Try.prog 32 #[v] w fun e w' => e = .returned (.bool (fitsB l)) ∧ Kept NoB w w' := by
  have HB := Lib.hid h
  obtain ⟨a, cap, rfl, hc, hm, hn, hr⟩ := h
  have HN := Lib.hid hn
  have HR := Lib.hid hr
  have HM := Lib.hid hm
  clear hn hr
  unfold maxLen at hm
  by_cases h4 : 4 ≤ l.length
  · have HF := Lib.hid (fits_ref h4)
    obtain ⟨n, hn4⟩ : ∃ n, n = l.length - 4 := ⟨_, rfl⟩
    have hw4 : IntKind.i64.wrap ((l.length : Int) - 4) = (n : Int) := by rw [IntWalk.i64_in _ (by omega)]; omega
    have hn0 : (0 : Int) ≤ (n : Int) := by omega
    have hnl : n ≤ cap := by omega
    have hnl2 : n ≤ l.length := by omega
    have HN4 := Lib.hid hn4
    have HBt := Lib.hid (bsl_take hc HM.out HN.out HR.out hnl2)
    clear hn4
    go_enter Try.func32, Try.ntmps32
    go_wp2_with fail
    refine (RSeal_any _ (l.take n) F _ HBt.out (by rw [List.length_take]; omega)).mono ?_
    rintro e w1 ⟨v1, rfl, hO, hk1⟩
    have HB1 := Lib.hid (HB.out.kept hk1 (fun _ _ h => h))
    have HO1 := Lib.hid hO.bsl
    clear hO
    go_wp2_with fail
    refine (Same_any _ _ _ _ _ _ _ HO1.out HB1.out).mono ?_
    rintro e w2 ⟨rfl, hk2⟩
    go_wp2
    go_ret
    refine ⟨?_, hk1.trans hk2 (fun _ _ h => h)⟩
    rw [HN4.out, HF.out]
    rfl
  · have hw4 : IntKind.i64.wrap ((l.length : Int) - 4) = (l.length : Int) - 4 := IntWalk.i64_in _ (by omega)
    have hneg : (l.length : Int) - 4 < 0 := by omega
    have hf : fitsB l = false := by unfold fitsB; rw [decide_eq_false h4]; rfl
    rw [hf]
    clear h4
    go_enter Try.func32, Try.ntmps32
    go_wp2
    go_ret
    exact ⟨rfl, Kept.refl _ _⟩
end Go.Proofs.Ytpcacndbagiajaa
