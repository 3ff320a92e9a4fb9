/-
  Layer 29: Join of the package, and the chapter's; texts that are the same.
-/
import Derived.Test.YtokafgleejcbgaaGreatDoorDirE
namespace Go.Proofs.YtokafgleejcbgaaGreatDoor
open Go.RowKit
set_option linter.unusedVariables false

/-- The path with these names. -/
def jn29 (l : List (List UInt8)) : List UInt8 := 47 :: Lib.join l [47]
theorem join_cons29 (x : List UInt8) (l : List (List UInt8)) (h : l ≠ []) : Lib.join (x :: l) [47] = x ++ 47 :: Lib.join l [47] := by
  cases l with
  | nil => exact absurd rfl h
  | cons y l => simp [Lib.join]
theorem jn_flat (l : List (List UInt8)) (h : l ≠ []) : jn29 l = l.flatMap (fun x => 47 :: x) := by
  unfold jn29
  induction l with
  | nil => exact absurd rfl h
  | cons x l ih =>
    by_cases hl : l = []
    · rw [hl]; simp [Lib.join]
    · rw [join_cons29 x l hl, List.flatMap_cons, ← ih hl]; rfl
theorem vJoin_any (v : Value) (l : List (List UInt8)) (F : Nat → Prop) (w : World) (h : TSl w F v l) (hl : (Lib.join l [47]).length ≤ 1000000) (hn : l.length ≤ 1000000) :
    Calls Tryz.prog 50 #[v] w fun e w' => e = .returned (.string ⟨(jn29 l).toArray⟩) ∧ Kept NoB w w' := by
  obtain ⟨a, cap, rfl, hc, hm, hnn, hr⟩ := h
  have hadd := add_lists29 [47] (Lib.join l [47]) (by simp) (by omega)
  have hJ : Calls Tryz.prog 61 #[.slice a l.length cap, .string ⟨#[47]⟩] w fun e w' => e = .returned (.string ⟨(Lib.join l [47]).toArray⟩) ∧ Kept NoB w w' := by
    by_cases h0 : l = []
    · subst h0
      exact (Tryz.strings_Join_none a cap ⟨#[47]⟩ w).mono fun e w' ⟨he, hw⟩ => ⟨by rw [he]; rfl, by rw [hw]; exact Kept.refl _ _⟩
    · obtain ⟨b, o, rfl, hF, hb, hcell⟩ := hr (by cases l with | nil => exact absurd rfl h0 | cons _ _ => simp)
      have e1 : (l.map fun x => (⟨x.toArray⟩ : ByteArray)).length = l.length := by simp
      have e2 : (l.map fun x => (⟨x.toArray⟩ : ByteArray)).map (·.data.toList) = l := by
        rw [List.map_map]
        exact (List.map_congr_left (g := id) (fun x _ => by simp)).trans (List.map_id l)
      have e3 : (⟨#[47]⟩ : ByteArray).data.toList = [47] := rfl
      have := Tryz.strings_Join b o cap (l.map fun x => ⟨x.toArray⟩) ⟨#[47]⟩ w (fun j x hx => by
        have hj : j < l.length := by
          rcases Nat.lt_or_ge j l.length with h | h
          · exact h
          · rw [List.getElem?_eq_none (by simpa using h)] at hx; cases hx
        rw [hcell j hj]
        simp [List.getElem?_eq_getElem hj] at hx
        rw [← hx]
        simp [List.getElem?_eq_getElem hj]) hb (by rw [e1]; omega) (by rw [e1]; exact hc) (by rw [e2, e3]; omega)
      rw [e1, e2, e3] at this
      exact this.mono fun e w' ⟨he, hw⟩ => ⟨he, (Kept.ofBelow hw).mono (fun i h1 h2 => absurd h1 (by omega))⟩
  have HJ := Lib.hid hJ
  obtain ⟨J, hJJ⟩ : ∃ J, J = Lib.join l [47] := ⟨_, rfl⟩
  have HR : Hid (jn29 l = [47] ++ J) := Lib.hid (by rw [hJJ]; rfl)
  rw [← hJJ] at HJ hadd
  rw [HR.out]
  have hadd2 : ∀ W, (Op.stringOp .add ⟨#[47]⟩ ⟨J.toArray⟩).run Tryz.prog W = .ok (.string ⟨([47] ++ J).toArray⟩) W := hadd
  clear hJ hJJ hadd hr hc hm hnn hl
  go_enter Tryz.func50, Tryz.ntmps50
  go_wp2_with (go_at_call 61; refine HJ.out.mono ?_; rintro e w2 ⟨rfl, hk2⟩; have HK := Lib.hid hk2; clear hk2)
  go_ret
  exact ⟨rfl, HK.out⟩
theorem flat_len29 (l : List (List UInt8)) : (l.flatMap (fun x => (47 : UInt8) :: x)).length = (l.map List.length).sum + l.length := by
  induction l with
  | nil => rfl
  | cons x l ih => rw [List.flatMap_cons, List.length_append, ih, List.map_cons, List.sum_cons, List.length_cons, List.length_cons]; omega
/-- Are texts the same? -/
theorem texts_eq {l m : List (List UInt8)} (hl : l.length = m.length) (h : ∀ j, j < l.length → l.getD j [] = m.getD j []) : l = m := by
  refine List.ext_getElem hl fun j h1 h2 => ?_
  have := h j h1
  rw [List.getD_eq_getElem?_getD, List.getD_eq_getElem?_getD, List.getElem?_eq_getElem h1, List.getElem?_eq_getElem h2] at this
  exact this
set_option maxRecDepth 100000 in
theorem SameT29_any (v u : Value) (l m : List (List UInt8)) (F G : Nat → Prop) (w : World) (h : TSl w F v l) (k : TSl w G u m) :
    Calls Tryz.prog 26 #[v, u] w fun e w' => e = .returned (.bool (decide (l = m))) ∧ Kept NoB w w' := by
  have hl1 := tsl_len h
  unfold maxLen at hl1
  obtain ⟨a, ca, rfl, _⟩ := id h
  obtain ⟨b, cb, rfl, _⟩ := id k
  have HL := Lib.hid h
  have HM := Lib.hid k
  by_cases hlen : l.length = m.length
  · have g0 : ((l.length : Int) != (m.length : Int)) = false := by rw [hlen]; simp
    have HLE := Lib.hid hlen
    obtain ⟨n, hn⟩ : ∃ n, n = m.length := ⟨_, rfl⟩
    rw [← hn] at hlen
    obtain ⟨d, hd⟩ : ∃ d, d = decide (l = m) := ⟨_, rfl⟩
    rw [← hd]
    have HD := Lib.hid hd
    clear h k hd
    go_enter Tryz.func26, Tryz.ntmps26
    go_wp2
    go_loopw [5] (fun i wr => ∃ k : Nat, k ≤ l.length ∧ i = .int .i64 k ∧ (∀ j, j < k → l.getD j [] = m.getD j []) ∧ Kept NoB w wr) (fun i _ => l.length - (RowKit.intOf i).toNat)
    case atStart => exact ⟨0, Nat.zero_le _, rfl, fun j hj => by omega, Kept.refl _ _⟩
    case round =>
      obtain ⟨k, hk, rfl, hsame, hkk⟩ := hrel
      have HS := Lib.hid hsame
      have HK := Lib.hid hkk
      clear hsame hkk
      by_cases hlt : k < l.length
      · have hk1 : (k : Int) < (l.length : Int) := by omega
        have hk2 : (k : Int) < (m.length : Int) := by have := HLE.out; omega
        have hk0 : (0 : Int) ≤ (k : Int) := by omega
        obtain ⟨b1, o1, rfl, _, _, c1⟩ := (HL.out.no HK.out).at_ hlt
        obtain ⟨b2, o2, rfl, _, _, c2⟩ := (HM.out.no HK.out).at_ (show k < m.length by have := HLE.out; omega)
        obtain ⟨x, hx⟩ : ∃ x, x = l.getD k [] := ⟨_, rfl⟩
        obtain ⟨y, hy⟩ : ∃ y, y = m.getD k [] := ⟨_, rfl⟩
        rw [← hx] at c1
        rw [← hy] at c2
        have HX := Lib.hid hx
        have HY := Lib.hid hy
        clear hx hy
        by_cases hxy : x = y
        · subst hxy
          have g1 : (x != x) = false := bne_self_eq_false x
          go_wp2
          go_region
          go_wp2
          go_roundw
          case rel => exact ⟨k + 1, by omega, by go_num, fun j hj => by
            rcases (by omega : j < k ∨ j = k) with h | rfl
            · exact HS.out j h
            · rw [← HX.out, ← HY.out], by first | exact HK.out | exact HK.out.drew⟩
          case measure => simp [RowKit.intOf]; omega
        · have g1 : (x != y) = true := bne_iff_ne.2 hxy
          have g2 : (x == y) = false := by simpa using hxy
          have HNE : Hid (¬ l = m) := Lib.hid (fun h => hxy (by rw [HX.out, HY.out, h]))
          go_wp2
          go_region
          go_wp2
          go_ret
          exact ⟨ret_b29 (by rw [HD.out]; exact (decide_eq_false HNE.out).symm), by first | exact HK.out | exact HK.out.drew⟩
      · obtain rfl : k = l.length := by omega
        have HEQ : Hid (l = m) := Lib.hid (texts_eq HLE.out HS.out)
        go_wp2
        go_ret
        exact ⟨ret_b29 (by rw [HD.out]; exact (decide_eq_true HEQ.out).symm), HK.out⟩
  · have g0 : ((l.length : Int) != (m.length : Int)) = true := bne_iff_ne.2 (by omega)
    have g1 : ((l.length : Int) == (m.length : Int)) = false := by simpa using (by omega : ¬ (l.length : Int) = (m.length : Int))
    rw [decide_eq_false (fun h => hlen (by rw [h]))]
    clear h k hlen
    go_enter Tryz.func26, Tryz.ntmps26
    go_wp2
    go_ret
    exact ⟨rfl, Kept.refl _ _⟩
set_option maxRecDepth 100000 in
theorem EqualT29_any (v u : Value) (l m : List (List UInt8)) (F G : Nat → Prop) (w : World) (h : TSl w F v l) (k : TSl w G u m) :
    Calls Tryz.prog 62 #[v, u] w fun e w' => e = .returned (.bool (decide (l = m))) ∧ Kept NoB w w' := by
  have hl1 := tsl_len h
  unfold maxLen at hl1
  obtain ⟨a, ca, rfl, _⟩ := id h
  obtain ⟨b, cb, rfl, _⟩ := id k
  have HL := Lib.hid h
  have HM := Lib.hid k
  by_cases hlen : l.length = m.length
  · have g0 : ((l.length : Int) != (m.length : Int)) = false := by rw [hlen]; simp
    have HLE := Lib.hid hlen
    obtain ⟨n, hn⟩ : ∃ n, n = m.length := ⟨_, rfl⟩
    rw [← hn] at hlen
    obtain ⟨d, hd⟩ : ∃ d, d = decide (l = m) := ⟨_, rfl⟩
    rw [← hd]
    have HD := Lib.hid hd
    clear h k hd
    go_enter Tryz.func62, Tryz.ntmps62
    go_wp2
    go_loopw [13] (fun i wr => ∃ k : Nat, k ≤ l.length ∧ i = .int .i64 k ∧ (∀ j, j < k → l.getD j [] = m.getD j []) ∧ Kept NoB w wr) (fun i _ => l.length - (RowKit.intOf i).toNat)
    case atStart => exact ⟨0, Nat.zero_le _, rfl, fun j hj => by omega, Kept.refl _ _⟩
    case round =>
      obtain ⟨k, hk, rfl, hsame, hkk⟩ := hrel
      have HS := Lib.hid hsame
      have HK := Lib.hid hkk
      clear hsame hkk
      by_cases hlt : k < l.length
      · have hk1 : (k : Int) < (l.length : Int) := by omega
        have hk2 : (k : Int) < (m.length : Int) := by have := HLE.out; omega
        have hk0 : (0 : Int) ≤ (k : Int) := by omega
        obtain ⟨b1, o1, rfl, _, _, c1⟩ := (HL.out.no HK.out).at_ hlt
        obtain ⟨b2, o2, rfl, _, _, c2⟩ := (HM.out.no HK.out).at_ (show k < m.length by have := HLE.out; omega)
        obtain ⟨x, hx⟩ : ∃ x, x = l.getD k [] := ⟨_, rfl⟩
        obtain ⟨y, hy⟩ : ∃ y, y = m.getD k [] := ⟨_, rfl⟩
        rw [← hx] at c1
        rw [← hy] at c2
        have HX := Lib.hid hx
        have HY := Lib.hid hy
        clear hx hy
        by_cases hxy : x = y
        · subst hxy
          have g1 : (x != x) = false := bne_self_eq_false x
          go_wp2
          go_region
          go_wp2
          go_roundw
          case rel => exact ⟨k + 1, by omega, by go_num, fun j hj => by
            rcases (by omega : j < k ∨ j = k) with h | rfl
            · exact HS.out j h
            · rw [← HX.out, ← HY.out], by first | exact HK.out | exact HK.out.drew⟩
          case measure => simp [RowKit.intOf]; omega
        · have g1 : (x != y) = true := bne_iff_ne.2 hxy
          have g2 : (x == y) = false := by simpa using hxy
          have HNE : Hid (¬ l = m) := Lib.hid (fun h => hxy (by rw [HX.out, HY.out, h]))
          go_wp2
          go_region
          go_wp2
          go_ret
          exact ⟨ret_b29 (by rw [HD.out]; exact (decide_eq_false HNE.out).symm), by first | exact HK.out | exact HK.out.drew⟩
      · obtain rfl : k = l.length := by omega
        have HEQ : Hid (l = m) := Lib.hid (texts_eq HLE.out HS.out)
        go_wp2
        go_ret
        exact ⟨ret_b29 (by rw [HD.out]; exact (decide_eq_true HEQ.out).symm), HK.out⟩
  · have g0 : ((l.length : Int) != (m.length : Int)) = true := bne_iff_ne.2 (by omega)
    have g1 : ((l.length : Int) == (m.length : Int)) = false := by simpa using (by omega : ¬ (l.length : Int) = (m.length : Int))
    rw [decide_eq_false (fun h => hlen (by rw [h]))]
    clear h k hlen
    go_enter Tryz.func62, Tryz.ntmps62
    go_wp2
    go_ret
    exact ⟨rfl, Kept.refl _ _⟩
end Go.Proofs.YtokafgleejcbgaaGreatDoor
