/-
  What the plain functions of the chapter's package (catenaryref01) do: bytes.
-/
import Derived.Test.YtiifkcjngajegaaDoorOut
import Derived.Test.YtiifkcjngajegaaDoorBytes
import Derived.Test.YtiifkcjngajegaaDoorOutB
namespace Go.Proofs.YtiifkcjngajegaaDoor
open Go.RowKit

/-- Cut. -/
theorem Cut_any (v : Value) (l : List Int) (n : Nat) (F : Nat → Prop) (w : World) (h : BSl w F v l) (hn : n ≤ 1000000) :
    Calls Tryd.prog 19 #[v, .int .i64 n] w fun e w' => ∃ v', e = .returned v' ∧ BSl w F v' (l.take n) ∧ w = w' := by
  have HB := Lib.hid h
  obtain ⟨a, cap, rfl, hc, hm, hnn, hr⟩ := h
  have HN := Lib.hid hnn
  have HR := Lib.hid hr
  clear hnn hr
  by_cases hlt : n < l.length
  · go_enter Tryd.func19, Tryd.ntmps19
    go_wp2
    go_ret
    exact ⟨_, rfl, bsl_take hc hm HN.out HR.out (by omega), rfl⟩
  · go_enter Tryd.func19, Tryd.ntmps19
    go_wp2
    go_ret
    refine ⟨_, rfl, ?_, rfl⟩
    rw [List.take_of_length_le (by omega)]
    exact HB.out

theorem take_snoc {l : List Int} {j : Nat} (h : j < l.length) : l.take (j + 1) = l.take j ++ [l.getD j 0] := by
  rw [List.take_succ_eq_append_getElem h, List.getD_eq_getElem?_getD, List.getElem?_eq_getElem h]
  rfl

/-- Same. -/
theorem Same_any (v u : Value) (l m : List Int) (F G : Nat → Prop) (w : World) (h : BSl w F v l) (k : BSl w G u m) :
    Calls Tryd.prog 16 #[v, u] w fun e w' => e = .returned (.bool (decide (l = m))) ∧ Kept NoB w w' := by
  obtain ⟨a, cap, rfl, hc, hm, hnn, hr⟩ := h
  obtain ⟨b, cap2, rfl, hc2, hm2, hnn2, hr2⟩ := k
  clear hnn hnn2
  unfold maxLen at hm hm2
  by_cases hlen : l.length = m.length
  · have hne : ((l.length : Int) != (m.length : Int)) = false := by simp [hlen]
    have HL := Lib.hid hlen
    have hle : l.length ≤ m.length := by omega
    clear hlen
    go_enter Tryd.func16, Tryd.ntmps16
    go_wp2
    go_loopw [5] (fun i wr => ∃ j : Nat, j ≤ l.length ∧ i = .int .i64 j ∧ l.take j = m.take j ∧ Kept NoB w wr) (fun i _ => l.length - (intOf i).toNat)
    case atStart => exact ⟨0, Nat.zero_le _, rfl, by simp, Kept.refl _ _⟩
    case round =>
      obtain ⟨j, hj, rfl, heq, hk⟩ := hrel
      have HE := Lib.hid heq
      clear heq
      by_cases hlt : j < l.length
      · obtain ⟨b1, o1, rfl, _, _, hcell1⟩ := hr.at_ hlt
        obtain ⟨b2, o2, rfl, _, _, hcell2⟩ := hr2.at_ (show j < m.length by omega)
        have d1 := hk.cell (p := ⟨b1, o1 + j, none⟩) (fun h => h) hcell1
        have d2 := hk.cell (p := ⟨b2, o2 + j, none⟩) (fun h => h) hcell2
        have hlt2 : (j : Int) < (l.length : Int) := by omega
        have hlt3 : (j : Int) < (m.length : Int) := by omega
        have h0 : (0 : Int) ≤ (j : Int) := by omega
        obtain ⟨x, hx⟩ : ∃ x, x = l.getD j 0 := ⟨_, rfl⟩
        obtain ⟨y, hy⟩ : ∃ y, y = m.getD j 0 := ⟨_, rfl⟩
        rw [← hx] at d1
        rw [← hy] at d2
        have HX := Lib.hid hx
        have HY := Lib.hid hy
        clear hx hy hcell1 hcell2
        by_cases hxy : x = y
        · have hxb : (x != y) = false := by rw [hxy]; simp
          have HXY := Lib.hid hxy
          clear hxy
          go_wp2_with fail
          go_quiet (fail)
          go_wp2
          refine ⟨⟨j + 1, by omega, by go_num, ?_, hk.drewN _⟩, by simp [intOf]; omega⟩
          rw [take_snoc hlt, take_snoc (show j < m.length by omega), HE.out, ← HX.out, ← HY.out, HXY.out]
        · have hxb : (x != y) = true := by simp [hxy]
          go_wp2_with fail
          go_quiet (fail)
          go_wp2
          go_ret
          refine ⟨ret_bool (decide_eq_false (fun h => hxy ?_)).symm, hk.drewN _⟩
          rw [HX.out, HY.out, h]
      · go_wp2
        go_ret
        have e1 : l.take j = l := List.take_of_length_le (by omega)
        have e2 : m.take j = m := List.take_of_length_le (by have := HL.out; omega)
        refine ⟨ret_bool (decide_eq_true ?_).symm, hk⟩
        rw [← e1, HE.out, e2]
  · have hne : ((l.length : Int) != (m.length : Int)) = true := by simp; omega
    go_enter Tryd.func16, Tryd.ntmps16
    go_wp2
    go_ret
    exact ⟨ret_bool (decide_eq_false (fun h => hlen (by rw [h]))).symm, Kept.refl _ _⟩

/-- Num, of at most eight bytes. -/
theorem Num_any (v : Value) (l : List Int) (F : Nat → Prop) (w : World) (h : BSl w F v l) (h8 : l.length ≤ 8) :
    Calls Tryd.prog 49 #[v] w fun e w' => e = .returned (.int .u64 (num l)) ∧ w = w' := by
  obtain ⟨a, cap, rfl, hc, hm, _, hr⟩ := h
  have hB := Lib.hid hr.1
  go_enter Tryd.func49, Tryd.ntmps49
  go_wp2
  go_loop [3, 4] (fun n i => ∃ j : Nat, j ≤ l.length ∧ i = .int .i64 j ∧ n = .int .u64 (num (l.take j))) (fun _ i => l.length - (intOf i).toNat)
  case atStart => exact ⟨0, Nat.zero_le _, rfl, rfl⟩
  case round =>
    obtain ⟨j, hj, rfl, rfl⟩ := hrel
    by_cases hlt : j < l.length
    · obtain ⟨b, o, rfl, _, _, hcell⟩ := hr.at_ hlt
      obtain ⟨x, hx⟩ : ∃ x, x = l.getD j 0 := ⟨_, rfl⟩
      rw [← hx] at hcell
      have HX := Lib.hid hx
      clear hx
      go_wp2
      refine ⟨⟨j + 1, by omega, by go_num, ?_⟩, by simp [intOf]; omega⟩
      rw [take_snoc hlt, num_snoc, ← HX.out]
      have h1 := num_lt (l.take j) (hB.out.take j)
      have h2 : (l.take j).length ≤ 7 := by rw [List.length_take]; omega
      have h3 : 256 ^ (l.take j).length ≤ 256 ^ 7 := Nat.pow_le_pow_right (by decide) h2
      have hx := hB.out.getD j
      rw [← HX.out] at hx
      rw [IntWalk.u64_in ((num (l.take j) : Int) * 256) (by omega), IntWalk.u64_in x (by omega), IntWalk.u64_in _ (by omega)]
      congr 1
      omega
    · go_wp2
      go_ret
      have e : l.take j = l := List.take_of_length_le (by omega)
      rw [e]
      exact ⟨rfl, rfl⟩

theorem own_one (w : World) (e : TypeId) (x : Int) : (w.alloc (.cells #[.int .u8 x] e)).ownsRow 0 e 1 (.slice (some ⟨w.heap.size, 0, none⟩) 1 1) 1 ([x].map (Value.int .u8)) :=
  ⟨rfl, .inr ⟨w.heap.size, 1, _, rfl, Nat.zero_le _, heap_alloc_new w _, Nat.le_refl _, by decide, rfl, rfl⟩⟩

/-- What Put answers: the bytes, or an error. -/
def putBytes (n : Nat) (width : Int) : List Int := if putErr n width = 0 then be n width.toNat else []

/-- A slice of bytes of the call's own, in a block of F. -/
def Own (w : World) (F : Nat → Prop) (v : Value) (l : List Int) : Prop := IsB l ∧ w.ownsRow 0 5 1 v l.length (l.map (Value.int .u8)) ∧ ∀ k, v.ownBlock = some k → F k
theorem Own.bsl {w : World} {F : Nat → Prop} {v : Value} {l : List Int} (h : Own w F v l) : BSl w F v l := BSl.ofOwn h.2.1 h.1 h.2.2
theorem Own.nil (w : World) (F : Nat → Prop) : Own w F (.slice none 0 0) [] := ⟨IsB.nil, World.ownsRow_nil _ _ _ _, fun _ hk => by simp [Value.ownBlock] at hk⟩
theorem Own.kept {S F : Nat → Prop} {w w' : World} {v : Value} {l : List Int} (h : Own w F v l) (hk : Kept S w w') (hs : ∀ k, F k → ¬ S k) : Own w' F v l := by
  obtain ⟨h1, hown, hF⟩ := h
  refine ⟨h1, ⟨hown.1, ?_⟩, hF⟩
  rcases hown.2 with hn | ⟨r, cap, cur, rfl, hb, hr, rest⟩
  · exact .inl hn
  · exact .inr ⟨r, cap, cur, rfl, hb, hk.heap (hs r (hF r rfl)) hr, rest⟩
theorem Own.mono {F G : Nat → Prop} {w : World} {v : Value} {l : List Int} (h : Own w F v l) (hG : ∀ k, k < w.heap.size → F k → G k) : Own w G v l :=
  ⟨h.1, h.2.1, fun k hk => hG k (h.2.1.lt k hk).2 (h.2.2 k hk)⟩
/-- What an append to such a slice leaves. -/
theorem Own.grow {w w1 : World} {F G : Nat → Prop} {v : Value} {a' : Option Addr} {c' : Nat} {l m : List Int} (h : Own w F v l) (hm : IsB m) (hG : ∀ k, k < w.heap.size → F k → G k) (hG2 : ∀ k, w.heap.size ≤ k → G k)
    (hown : w1.ownsRow 0 5 1 (.slice a' (l.length + m.length) c') (l.length + m.length) ((l ++ m).map (Value.int .u8))) (hg : w.grownBy w1 v.ownBlock)
    (hat : (Value.slice a' (l.length + m.length) c').ownBlock = v.ownBlock ∨ (Value.slice a' (l.length + m.length) c').ownBlock = some w.heap.size) :
    Own w1 G (.slice a' (l.length + m.length) c') (l ++ m) ∧ Kept F w w1 := by
  refine ⟨⟨h.1.append hm, by rw [List.length_append]; exact hown, fun k hk => ?_⟩, (Kept.refl _ _).grown hg (fun k hk => .inl (h.2.2 k hk))⟩
  rcases hat with e | e
  · rw [e] at hk
    exact hG k (h.2.1.lt k hk).2 (h.2.2 k hk)
  · rw [e] at hk
    injection hk with hk
    subst hk
    exact hG2 _ (Nat.le_refl _)

set_option maxRecDepth 100000 in
/-- Put. -/
theorem RPut_any (n : Nat) (width : Int) (w : World) (hn : Hid (n < 18446744073709551616)) :
    Calls Tryd.prog 66 #[.int .u64 n, .int .i64 width] w fun e w' => ∃ v, e = .returned (.tuple #[v, .int .i64 (putErr n width)]) ∧ Own w' (fun k => w.heap.size ≤ k) v (putBytes n width) ∧ Kept NoB w w' := by
  obtain ⟨i0, hi0, hz0, hz1, hz2⟩ := info_parts Tryd.info5
  by_cases hw : width < 1 ∨ 8 < width
  · have hp : Hid (putErr n width = 1) := if_pos hw
    rcases hw with hw | hw
    all_goals
      have hw2 : 1 ≤ width ∨ width < 1 := by omega
      go_enter Tryd.func66, Tryd.ntmps66
      go_wp2
      go_ret2
      unfold putBytes
      rw [hp.out]
      exact ⟨_, rfl, Own.nil _ _, Kept.refl _ _⟩
  · obtain ⟨k, rfl⟩ := Int.eq_ofNat_of_zero_le (show 0 ≤ width by omega)
    have hk1 : 1 ≤ k := by omega
    have hk8 : k ≤ 8 := by omega
    have hp : Hid (putErr n k = if n / 256 ^ k = 0 then 0 else 4) := by
      show putErr n k = _
      unfold putErr
      rw [if_neg hw]
      simp only [Int.toNat_natCast]
    have hd : (decide ((k : Int) < 1) || decide (8 < (k : Int))) = false := by
      rw [decide_eq_false (by omega), decide_eq_false (by omega)]; rfl
    clear hw
    go_enter Tryd.func66, Tryd.ntmps66
    go_wp2
    go_loopw [0, 6, 7] (fun m o i wr => ∃ j : Nat, j ≤ k ∧ i = .int .i64 j ∧ m = .int .u64 ((n / 256 ^ j : Nat) : Int) ∧ Own wr (fun k => w.heap.size ≤ k) o (be n j) ∧ Kept NoB w wr) (fun _ _ i _ => k - (intOf i).toNat)
    case atStart => exact ⟨0, Nat.zero_le _, rfl, by simp, Own.nil _ _, Kept.refl _ _⟩
    case round =>
      obtain ⟨j, hj, rfl, rfl, hb, hkp⟩ := hrel
      obtain ⟨X, hX⟩ : ∃ X, X = n / 256 ^ j := ⟨_, rfl⟩
      rw [← hX]
      have HX := Lib.hid hX
      have HB := Lib.hid hb
      obtain ⟨oa, oc, rfl⟩ := own_form hb.2.1
      have hX0 : 0 ≤ (X : Int) := by omega
      have HL := Lib.hid (be_len n j)
      have hsz := hkp.size
      have HKP := Lib.hid hkp
      clear hX hb hkp
      by_cases hlt : j < k
      · go_wp2_with (at_builtin; refine wpList_append_bsl _ rfl (.tmp 22) (.tmp 23) _ rfl 5 i0 _ Tryd.underlying29 hi0 hz0 hz1 hz2 rfl (.slice (some ⟨wr.heap.size, 0, none⟩) 1 1) 1 [_] rfl (own_one wr _ _) (fun k => w.heap.size ≤ k) _ (be n j) rfl (HB.out.bsl.kept ((Kept.refl NoB _).alloc _) (fun _ _ h => h)) (by rw [HL.out]; omega) ?_; intro a' c' w1 hown1 hg1 hat1)
        have hO : Own (wr.alloc (.cells #[.int .u8 ((X : Int) % 256)] 5)) (fun k => wr.heap.size ≤ k) (.slice (some ⟨wr.heap.size, 0, none⟩) 1 1) [(X : Int) % 256] :=
          ⟨fun x hx => by simp only [List.mem_singleton] at hx; subst hx; exact ⟨by omega, by omega⟩, own_one wr _ _, fun k hk => by simp [Value.ownBlock] at hk; omega⟩
        have R := hO.grow (G := fun k => w.heap.size ≤ k) HB.out.1 (fun k _ h => by omega) (fun k h => by simp at h; omega) hown1 hg1 hat1
        have e1 : [(X : Int) % 256] ++ be n j = be n (j + 1) := by
          rw [be, ← HX.out]
          rfl
        have e2 : IntKind.u64.wrap ((X : Int) / 256) = ((n / 256 ^ (j + 1) : Nat) : Int) := by
          have hlt := hn.out
          have hle : X ≤ n := by rw [HX.out]; exact Nat.div_le_self _ _
          rw [IntWalk.u64_in _ (by omega), Nat.pow_succ, ← Nat.div_div_eq_div_mul, ← HX.out]
          omega
        refine ⟨⟨j + 1, by omega, by go_num, by rw [e2], ?_, ?_⟩, by simp [intOf]; omega⟩
        · rw [← e1]; exact R.1
        · exact (HKP.out.alloc _).trans R.2 (fun i hi h => by omega)
      · have ej : Hid (j = k) := by show j = k; omega
        by_cases h0 : X = 0
        · subst h0
          go_wp2
          go_ret2
          unfold putBytes
          rw [hp.out, ← ej.out, ← HX.out]
          exact ⟨_, rfl, HB.out, HKP.out⟩
        · have hpos : (0 : Int) < (X : Int) := by omega
          go_wp2
          go_ret2
          unfold putBytes
          rw [hp.out, ← ej.out, ← HX.out, if_neg h0]
          exact ⟨_, rfl, Own.nil _ _, HKP.out⟩

theorem putErr_fit (n width : Nat) (h1 : 1 ≤ width) (h8 : width ≤ 8) (hn : n < 256 ^ width) : putErr n width = 0 ∧ putBytes n width = be n width := by
  have e : putErr n width = 0 := by
    unfold putErr
    rw [if_neg (by omega)]
    simp only [Int.toNat_natCast]
    rw [if_pos (Nat.div_eq_of_lt hn)]
  exact ⟨e, by unfold putBytes; rw [if_pos e, Int.toNat_natCast]⟩

/-- Big. -/
theorem Big_any (n width : Nat) (w : World) (h1 : 1 ≤ width) (h8 : width ≤ 8) (hn : Hid (n < 256 ^ width)) :
    Calls Tryd.prog 48 #[.int .u64 n, .int .i64 width] w fun e w' => ∃ v, e = .returned v ∧ Own w' (fun k => w.heap.size ≤ k) v (be n width) ∧ Kept NoB w w' := by
  have hn2 : Hid (n < 18446744073709551616) := Nat.lt_of_lt_of_le hn.out (Nat.pow_le_pow_right (by decide) h8)
  have HF := Lib.hid (putErr_fit n width h1 h8 hn.out)
  go_enter Tryd.func48, Tryd.ntmps48
  go_wp2_with fail
  refine (RPut_any n width _ hn2).mono ?_
  rintro e w1 ⟨v, rfl, hv, hk1⟩
  have HV := Lib.hid hv
  obtain ⟨oa, oc, rfl⟩ := own_form hv.2.1
  clear hv
  go_wp2
  go_ret
  refine ⟨_, rfl, ?_, hk1⟩
  have := HV.out
  rw [HF.out.2] at this ⊢
  exact this
end Go.Proofs.YtiifkcjngajegaaDoor
