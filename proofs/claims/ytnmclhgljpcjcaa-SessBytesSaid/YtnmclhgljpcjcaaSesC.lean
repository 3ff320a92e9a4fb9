/-
  The chapter's rows: Get, Put (by wip/mkses.py).
-/
import Derived.Test.YtnmclhgljpcjcaaSesB
namespace Go.Proofs.Ytnmclhgljpcjcaa
open Go.RowKit
set_option linter.unusedVariables false

def RgRel16 (w : World) (s : Int) (L : List Rw) (iv : Value) (wr : World) : Prop := ∃ k : Nat, k ≤ L.length ∧ iv = .int .i64 k ∧ (∀ j (hj : j < L.length), j < k → L[j].s ≠ s) ∧ wr = w
set_option maxRecDepth 100000 in
theorem RGet16_any (w : World) (v : Value) (s : Int) (L : List Rw) (F : Nat → Prop) (h : RwRd w F v L) : Calls Try.prog 43 #[v, .int .i64 s] w fun e w' =>
    e = .returned (.tuple #[rvv ((atR L s).getD rw0), .bool (atR L s).isSome]) ∧ Kept NoB w w' := by
  have HK0 := Lib.hid ((Kept.refl NoB w).alloc (.cells #[.int .i64 0, .int .u64 0, .int .u64 0, .int .i64 0, .int .u64 0] 74))
  have HR := Lib.hid (heap_alloc_new w (.cells #[.int .i64 0, .int .u64 0, .int .u64 0, .int .i64 0, .int .u64 0] 74))
  have h1 := h.no HK0.out
  have hl := h.len
  have hnn : (L.length : Int) ≤ 9223372036854775807 := by omega
  obtain ⟨a, c, rfl⟩ := h.form
  have HV := Lib.hid h1
  clear h h1 hl
  go_enter Try.func43, Try.ntmps43
  go_wp2
  go_loopw [6] (RgRel16 (w.alloc (.cells #[.int .i64 0, .int .u64 0, .int .u64 0, .int .i64 0, .int .u64 0] 74)) s L) (fun i _ => L.length - (RowKit.intOf i).toNat)
  case atStart => exact ⟨0, Nat.zero_le _, rfl, fun j _ h => absurd h (by omega), rfl⟩
  case round =>
    obtain ⟨k, hk, rfl, hno, rfl⟩ := hrel
    have hk0 : (0 : Int) ≤ (k : Int) := by omega
    by_cases hlt : k < L.length
    · have hk1 : (k : Int) < (L.length : Int) := by omega
      obtain ⟨b, o, rfl, _, hb, e0, e1, e2, e3, e4⟩ := HV.out.at_ k hlt
      obtain ⟨y, hy⟩ : ∃ y, y = L[k] := ⟨_, rfl⟩
      have HY := Lib.hid hy
      rw [← hy] at e0 e1 e2 e3 e4
      clear hy
      obtain ⟨y0, y1, y2, y3, y4⟩ := y
      try simp only at e0 e1 e2 e3 e4
      by_cases hs : y0 = s
      · subst hs
        have HX : Hid (atR L y0 = some ⟨y0, y1, y2, y3, y4⟩) := Lib.hid (by
          rw [atR_skip (k := k) hno, List.drop_eq_getElem_cons hlt, atR_cons, ← HY.out, if_pos rfl])
        obtain ⟨r0, r1, r2, r3, r4⟩ := cells5r (v := rw0) HR.out
        have z0 := blkR_frozen HR.out 0
        have z1 := blkR_frozen HR.out 1
        have z2 := blkR_frozen HR.out 2
        have z3 := blkR_frozen HR.out 3
        have z4 := blkR_frozen HR.out 4
        go_wp2
        have h1 := heap_alloc_new w (.cells #[.int .i64 y0, .int .u64 y1, .int .u64 y2, .int .i64 y3, .int .u64 y4] 74)
        clear r0 r1 r2 r3 r4 z0 z1 z2 z3 z4
        obtain ⟨r0, r1, r2, r3, r4⟩ := cells5r (v := ⟨y0, y1, y2, y3, y4⟩) h1
        have hk2 : Kept NoB w (w.alloc (.cells #[.int .i64 y0, .int .u64 y1, .int .u64 y2, .int .i64 y3, .int .u64 y4] 74)) := (Kept.refl _ _).alloc _
        clear h1
        rw [HX.out]
        generalize hW : World.alloc _ _ = W at r0 r1 r2 r3 r4 hk2 ⊢
        exact bodyPost_ret (v := .tuple #[.agg #[.int .i64 y0, .int .u64 y1, .int .u64 y2, .int .i64 y3, .int .u64 y4], .bool true]) (by simp [results, Try.results43, go_sem, r0, r1, r2, r3, r4]) rfl ⟨rfl, hk2⟩
      · have hsb : (y0 == s) = false := by simpa using hs
        go_wp2
        exact ⟨⟨k + 1, by omega, by go_num, fun j hj hjk => by
          rcases Nat.lt_or_ge j k with h | h
          · exact hno j hj h
          · obtain rfl : j = k := by omega
            rw [← HY.out]
            exact hs, rfl⟩, by simp [RowKit.intOf]; omega⟩
    · have hkn : k = L.length := by omega
      have HX : Hid (atR L s = none) := Lib.hid (by
        rw [atR_skip (k := k) hno, List.drop_eq_nil_of_le (by omega)]
        rfl)
      subst hkn
      obtain ⟨r0, r1, r2, r3, r4⟩ := cells5r (v := rw0) HR.out
      have z0 := blkR_frozen HR.out 0
      go_wp2
      have h1 := heap_alloc_new w (.cells #[.int .i64 0, .int .u64 0, .int .u64 0, .int .i64 0, .int .u64 0] 74)
      clear r0 r1 r2 r3 r4 z0
      obtain ⟨r0, r1, r2, r3, r4⟩ := cells5r (v := rw0) h1
      have hk2 : Kept NoB w (w.alloc (.cells #[.int .i64 0, .int .u64 0, .int .u64 0, .int .i64 0, .int .u64 0] 74)) := (Kept.refl _ _).alloc _
      clear h1
      rw [HX.out]
      generalize hW : World.alloc _ _ = W at r0 r1 r2 r3 r4 hk2 ⊢
      exact bodyPost_ret (v := .tuple #[.agg #[.int .i64 0, .int .u64 0, .int .u64 0, .int .i64 0, .int .u64 0], .bool false]) (by simp [results, Try.results43, go_sem, r0, r1, r2, r3, r4]; simp [rw0]) rfl ⟨rfl, hk2⟩
def RpRel16 (w : World) (s : Int) (L : List Rw) (ov iv : Value) (wr : World) : Prop := ∃ k : Nat, k ≤ L.length ∧ iv = .int .i64 k ∧ (∀ j (hj : j < L.length), j < k → L[j].s < s) ∧ QOwn w.heap.size wr ov (L.take k) ∧ Kept NoB w wr
set_option maxRecDepth 100000 in
set_option maxHeartbeats 1000000 in
theorem RPut16_any (w : World) (v : Value) (L : List Rw) (x0 x1 x2 x3 x4 : Int) (F : Nat → Prop) (h : RwRd w F v L) (hl : L.length ≤ 10000) : Calls Try.prog 79 #[v, .agg #[.int .i64 x0, .int .u64 x1, .int .u64 x2, .int .i64 x3, .int .u64 x4]] w fun e w' =>
    ∃ u, e = .returned u ∧ QOwn w.heap.size w' u (putR L ⟨x0, x1, x2, x3, x4⟩) ∧ Kept NoB w w' := by
  obtain ⟨a, c, rfl⟩ := h.form
  have HK0 := Lib.hid ((Kept.refl NoB w).alloc (.cells #[.int .i64 x0, .int .u64 x1, .int .u64 x2, .int .i64 x3, .int .u64 x4] 74))
  have HR := Lib.hid (heap_alloc_new w (.cells #[.int .i64 x0, .int .u64 x1, .int .u64 x2, .int .i64 x3, .int .u64 x4] 74))
  have HV := Lib.hid h
  have hnn : (L.length : Int) ≤ 10000 := by omega
  clear h
  go_enter Try.func79, Try.ntmps79
  go_wp2
  obtain ⟨w0, hw0⟩ : ∃ w0, w0 = w.alloc (.cells #[.int .i64 x0, .int .u64 x1, .int .u64 x2, .int .i64 x3, .int .u64 x4] 74) := ⟨_, rfl⟩
  rw [← hw0] at HK0 HR ⊢
  have hz0 : w0.heap.size = w.heap.size + 1 := by rw [hw0]; simp
  have HB : Hid (w.heap.size < w0.heap.size) := Lib.hid (by omega)
  have HV0 := Lib.hid (HV.out.no HK0.out)
  clear hw0 hz0 HV
  go_loopw [5, 6] (RpRel16 w0 x0 L) (fun _ i _ => L.length - (RowKit.intOf i).toNat)
  case atStart => exact ⟨0, Nat.zero_le _, rfl, fun j _ h => absurd h (by omega), QOwn.nil _ _, Kept.refl _ _⟩
  case round =>
    obtain ⟨k, hk, rfl, hlow, hown, hK⟩ := hrel
    have hk0 : (0 : Int) ≤ (k : Int) := by omega
    have HK := Lib.hid hK
    have HLOW := Lib.hid hlow
    have hrow := hK.heap (fun h => h) HR.out
    obtain ⟨b0, _, _, _, _⟩ := cells5r (v := ⟨x0, x1, x2, x3, x4⟩) hrow
    have htl : (L.take k).length = k := by rw [List.length_take]; omega
    have HTL := Lib.hid htl
    obtain ⟨oa, oc, rfl⟩ := hown.form
    have HO : Hid (QOwn w0.heap.size wr (.slice oa k oc) (L.take k)) := Lib.hid (by rw [htl] at hown; exact hown)
    rw [htl]
    clear hown hlow htl
    by_cases hlt : k < L.length
    · have hk1 : (k : Int) < (L.length : Int) := by omega
      obtain ⟨b, o, rfl, _, hb, e0, e1, e2, e3, e4⟩ := (HV0.out.no hK).at_ k hlt
      obtain ⟨y, hy⟩ : ∃ y, y = L[k] := ⟨_, rfl⟩
      have HY := Lib.hid hy
      have hst : L.take (k + 1) = L.take k ++ [y] := by rw [hy, List.take_succ_eq_append_getElem hlt]
      have HST := Lib.hid hst
      rw [← hy] at e0 e1 e2 e3 e4
      clear hy hst hK
      obtain ⟨y0, y1, y2, y3, y4⟩ := y
      try simp only at e0 e1 e2 e3 e4
      by_cases hs : y0 < x0
      · have hl1 : decide (y0 < x0) = true := decide_eq_true hs
        go_wp2_with fail
        go_quiet (fail)
        have HKQ : Hid (Kept NoB wr (wr.drewN nq)) := Lib.hid ((Kept.refl NoB wr).drewN nq)
        obtain ⟨w1, hw1⟩ : ∃ w1, w1 = wr.drewN nq := ⟨_, rfl⟩
        rw [← hw1] at HKQ ⊢
        clear hw1
        have HO3 := Lib.hid ((HO.out.no HKQ.out).no ((Kept.refl NoB w1).alloc (.cells #[.int .i64 y0, .int .u64 y1, .int .u64 y2, .int .i64 y3, .int .u64 y4] 74)))
        have HZ := Lib.hid (heap_alloc_new w1 (.cells #[.int .i64 y0, .int .u64 y1, .int .u64 y2, .int .i64 y3, .int .u64 y4] 74))
        have HK3 := Lib.hid ((HK.out.trans HKQ.out (fun _ _ h => h)).alloc (.cells #[.int .i64 y0, .int .u64 y1, .int .u64 y2, .int .i64 y3, .int .u64 y4] 74))
        clear e0 e1 e2 e3 e4
        obtain ⟨b', o', hbo, _, hb', e0, e1, e2, e3, e4⟩ := (HV0.out.no (HK.out.trans HKQ.out (fun _ _ h => h))).at_ k hlt
        injection hbo with hbo
        injection hbo with hbo1 hbo2
        subst hbo1 hbo2
        rw [← HY.out] at e0 e1 e2 e3 e4
        try simp only at e0 e1 e2 e3 e4
        go_wp2_with (at_builtin; refine wpList_append_qr _ rfl _ _ rfl w0.heap.size (.slice oa k oc) (L.take k) rfl HO3.out w1.heap.size ⟨y0, y1, y2, y3, y4⟩ rfl HZ.out (by have := HTL.out; omega) (by exact HK3.out.size) ?_; rw [HTL.out]; intro a' c' w' hown' hgrow' hat')
        exact ⟨⟨k + 1, by omega, by go_num, fun j hj hjk => by
          rcases Nat.lt_or_ge j k with h | h
          · exact HLOW.out j hj h
          · obtain rfl : j = k := by omega
            rw [← HY.out]
            exact hs, by rw [HST.out]; exact hown', HK3.out.grown hgrow' (fun i hi => .inr (HO3.out.base i hi).1)⟩, by simp [RowKit.intOf]; omega⟩
      · have hl1 : decide (y0 < x0) = false := decide_eq_false hs
        have HW1 : Hid True := Lib.hid trivial
        go_wp2_with fail
        go_quiet (fail)
        have HKQ : Hid (Kept NoB wr (wr.drewN nq)) := Lib.hid ((Kept.refl NoB wr).drewN nq)
        obtain ⟨w1, hw1⟩ : ∃ w1, w1 = wr.drewN nq := ⟨_, rfl⟩
        rw [← hw1] at HKQ ⊢
        clear hw1
        have HO3 := Lib.hid ((HO.out.no HKQ.out).no ((Kept.refl NoB w1).alloc (.cells #[.int .i64 x0, .int .u64 x1, .int .u64 x2, .int .i64 x3, .int .u64 x4] 74)))
        have HZ := Lib.hid (heap_alloc_new w1 (.cells #[.int .i64 x0, .int .u64 x1, .int .u64 x2, .int .i64 x3, .int .u64 x4] 74))
        have HK3 := Lib.hid ((HK.out.trans HKQ.out (fun _ _ h => h)).alloc (.cells #[.int .i64 x0, .int .u64 x1, .int .u64 x2, .int .i64 x3, .int .u64 x4] 74))
        clear e0 e1 e2 e3 e4 b0
        obtain ⟨b0, b1, b2, b3, b4⟩ := cells5r (v := ⟨x0, x1, x2, x3, x4⟩) ((HK.out.trans HKQ.out (fun _ _ h => h)).heap (fun h => h) HR.out)
        go_wp2_with (at_builtin; refine wpList_append_qr _ rfl _ _ rfl w0.heap.size (.slice oa k oc) (L.take k) rfl HO3.out w1.heap.size ⟨x0, x1, x2, x3, x4⟩ rfl HZ.out (by have := HTL.out; omega) (by exact HK3.out.size) ?_; rw [HTL.out]; intro a' c' w4 hown' hgrow' hat'; have HO4 := Lib.hid hown'; have HK4 := Lib.hid (HK3.out.grown hgrow' (fun i hi => .inr (HO3.out.base i hi).1)); clear hown' hgrow' hat')
        have HV3 := Lib.hid (HV0.out.no HK4.out)
        clear b0 b1 b2 b3 b4
        obtain ⟨b0, _, _, _, _⟩ := cells5r (v := ⟨x0, x1, x2, x3, x4⟩) (HK4.out.heap (fun h => h) HR.out)
        obtain ⟨b', o', hbo, _, hb', e0, e1, e2, e3, e4⟩ := HV3.out.at_ k hlt
        injection hbo with hbo
        injection hbo with hbo1 hbo2
        subst hbo1 hbo2
        rw [← HY.out] at e0 e1 e2 e3 e4
        try simp only at e0 e1 e2 e3 e4
        by_cases heq : y0 = x0
        · subst heq
          have HP : Hid (putR L ⟨y0, x1, x2, x3, x4⟩ = L.take k ++ [⟨y0, x1, x2, x3, x4⟩] ++ L.drop (k + 1)) := Lib.hid (by
            rw [putR_at (k := k) hk HLOW.out (fun hk' h => by rw [← HY.out] at h; have h : y0 < y0 := h; omega), if_pos ⟨hlt, by rw [← HY.out]⟩, List.append_assoc]
            rfl)
          have hcl : (L.length : Int) ≤ (c : Int) := by
            obtain ⟨_, _, e, h2, _⟩ := HV3.out
            injection e with _ _ e
            omega
          have hcl2 : L.length ≤ c := by omega
          go_quiet (fail)
          have HKR : Hid (Kept NoB w4 (w4.drewN nq)) := Lib.hid ((Kept.refl NoB w4).drewN nq)
          obtain ⟨w5, hw5⟩ : ∃ w5, w5 = w4.drewN nq := ⟨_, rfl⟩
          rw [← hw5] at HKR ⊢
          clear hw5
          have HO5 := Lib.hid (HO4.out.no HKR.out)
          have HD := Lib.hid ((HV3.out.no HKR.out).drop (k + 1) (by omega))
          have HK5 := Lib.hid (HK4.out.trans HKR.out (fun _ _ h => h))
          have HL4 : Hid ((L.take k ++ [(⟨y0, x1, x2, x3, x4⟩ : Rw)]).length = k + 1) := Lib.hid (by rw [List.length_append, HTL.out]; rfl)
          have HM4 : Hid ((L.drop (k + 1)).length = L.length - (k + 1)) := Lib.hid (List.length_drop)
          by_cases hci : c = k + 1
          · have hlk : L.length = k + 1 := by omega
            have hdn : L.drop (k + 1) = [] := List.drop_eq_nil_of_le (by omega)
            have HP2 : Hid (putR L ⟨y0, x1, x2, x3, x4⟩ = L.take k ++ [⟨y0, x1, x2, x3, x4⟩] ++ []) := Lib.hid (by rw [HP.out, hdn])
            have HD2 : Hid (RwRd w5 F (.slice (some ⟨b, o, none⟩) 0 0) []) := Lib.hid ⟨_, 0, rfl, Nat.le_refl _, Nat.zero_le _, (fun h => by cases h), fun h => absurd h (by simp)⟩
            clear hdn
            subst hci
            go_wp2_with (at_builtin; first
              | (refine wpList_append_qrs _ rfl _ _ rfl w0.heap.size (.slice a' (k + 1) c') (L.take k ++ [⟨y0, x1, x2, x3, x4⟩]) rfl HO5.out (.slice (some ⟨b, o, none⟩) 0 0) [] F rfl HD2.out (by have := HL4.out; simp only [List.length_nil]; omega) (by exact HK5.out.size) (k + 1) (by rw [HL4.out]; rfl) ?_; intro a6 c6 w6 hown6 hgrow6 hat6))
            go_ret
            exact ⟨_, rfl, by rw [HP2.out]; exact hown6.mono (show w.heap.size ≤ w0.heap.size from Nat.le_of_lt HB.out), (HK0.out.trans HK5.out (fun _ _ h => h)).grown hgrow6 (fun i hi => .inr (by have := (HO5.out.base i hi).1; have := HB.out; omega))⟩
          · have HD2 : Hid (RwRd w5 F (.slice (some ⟨b, o + (k + 1) * 5, none⟩) (L.length - (k + 1)) (c - (k + 1))) (L.drop (k + 1))) := Lib.hid (by
              have := HD.out
              rw [if_neg hci, Option.map_some, addr_add16] at this
              exact this)
            go_wp2_with (at_builtin; refine wpList_append_qrs _ rfl _ _ rfl w0.heap.size (.slice a' (k + 1) c') (L.take k ++ [⟨y0, x1, x2, x3, x4⟩]) rfl HO5.out (.slice (some ⟨b, o + (k + 1) * 5, none⟩) (L.length - (k + 1)) (c - (k + 1))) (L.drop (k + 1)) F rfl HD2.out (by have := HL4.out; have := HM4.out; omega) (by exact HK5.out.size) (k + 1 + (L.length - (k + 1))) (by rw [HL4.out, HM4.out]) ?_; intro a6 c6 w6 hown6 hgrow6 hat6)
            go_ret
            exact ⟨_, rfl, by rw [HP.out]; exact hown6.mono (show w.heap.size ≤ w0.heap.size from Nat.le_of_lt HB.out), (HK0.out.trans HK5.out (fun _ _ h => h)).grown hgrow6 (fun i hi => .inr (by have := (HO5.out.base i hi).1; have := HB.out; omega))⟩
        · have heb : (y0 == x0) = false := by simpa using heq
          have HP : Hid (putR L ⟨x0, x1, x2, x3, x4⟩ = L.take k ++ [⟨x0, x1, x2, x3, x4⟩] ++ L.drop k) := Lib.hid (by
            rw [putR_at (k := k) hk HLOW.out (fun hk' h => by rw [← HY.out] at h; have h : y0 < x0 := h; omega), if_neg (by rintro ⟨h1, h2⟩; rw [← HY.out] at h2; exact heq h2), List.append_assoc]
            rfl)
          have hcl : (L.length : Int) ≤ (c : Int) := by
            obtain ⟨_, _, e, h2, _⟩ := HV3.out
            injection e with _ _ e
            omega
          have hcl2 : L.length ≤ c := by omega
          go_quiet (fail)
          have HKR : Hid (Kept NoB w4 (w4.drewN nq)) := Lib.hid ((Kept.refl NoB w4).drewN nq)
          obtain ⟨w5, hw5⟩ : ∃ w5, w5 = w4.drewN nq := ⟨_, rfl⟩
          rw [← hw5] at HKR ⊢
          clear hw5
          have HO5 := Lib.hid (HO4.out.no HKR.out)
          have HD := Lib.hid ((HV3.out.no HKR.out).drop (k) (by omega))
          have HK5 := Lib.hid (HK4.out.trans HKR.out (fun _ _ h => h))
          have HL4 : Hid ((L.take k ++ [(⟨x0, x1, x2, x3, x4⟩ : Rw)]).length = k + 1) := Lib.hid (by rw [List.length_append, HTL.out]; rfl)
          have HM4 : Hid ((L.drop (k)).length = L.length - (k)) := Lib.hid (List.length_drop)
          by_cases hci : c = k
          · exact absurd hci (by omega)
          · have HD2 : Hid (RwRd w5 F (.slice (some ⟨b, o + (k) * 5, none⟩) (L.length - (k)) (c - (k))) (L.drop (k))) := Lib.hid (by
              have := HD.out
              rw [if_neg hci, Option.map_some, addr_add16] at this
              exact this)
            go_wp2_with (at_builtin; refine wpList_append_qrs _ rfl _ _ rfl w0.heap.size (.slice a' (k + 1) c') (L.take k ++ [⟨x0, x1, x2, x3, x4⟩]) rfl HO5.out (.slice (some ⟨b, o + (k) * 5, none⟩) (L.length - (k)) (c - (k))) (L.drop (k)) F rfl HD2.out (by have := HL4.out; have := HM4.out; omega) (by exact HK5.out.size) (k + 1 + (L.length - (k))) (by rw [HL4.out, HM4.out]) ?_; intro a6 c6 w6 hown6 hgrow6 hat6)
            go_ret
            exact ⟨_, rfl, by rw [HP.out]; exact hown6.mono (show w.heap.size ≤ w0.heap.size from Nat.le_of_lt HB.out), (HK0.out.trans HK5.out (fun _ _ h => h)).grown hgrow6 (fun i hi => .inr (by have := (HO5.out.base i hi).1; have := HB.out; omega))⟩
    · have hkn : k = L.length := by omega
      subst hkn
      have HT : Hid (L.take L.length = L) := Lib.hid (List.take_length)
      have HP : Hid (putR L ⟨x0, x1, x2, x3, x4⟩ = L ++ [⟨x0, x1, x2, x3, x4⟩] ++ []) := Lib.hid (by
        rw [putR_at (k := L.length) hk HLOW.out (fun hk' => absurd hk' (by omega)), if_neg (by rintro ⟨h1, _⟩; omega), List.drop_eq_nil_of_le (Nat.le_refl _), List.take_length, List.append_nil])
      have hlf : decide ((L.length : Int) < (L.length : Int)) = false := decide_eq_false (by omega)
      clear hK
      go_wp2_with fail
      go_quiet (fail)
      have HKQ : Hid (Kept NoB wr (wr.drewN nq)) := Lib.hid ((Kept.refl NoB wr).drewN nq)
      obtain ⟨w1, hw1⟩ : ∃ w1, w1 = wr.drewN nq := ⟨_, rfl⟩
      rw [← hw1] at HKQ ⊢
      clear hw1
      have HO3 : Hid (QOwn w0.heap.size (w1.alloc (.cells #[.int .i64 x0, .int .u64 x1, .int .u64 x2, .int .i64 x3, .int .u64 x4] 74)) (.slice oa L.length oc) L) := Lib.hid (by
        have := (HO.out.no HKQ.out).no ((Kept.refl NoB w1).alloc (.cells #[.int .i64 x0, .int .u64 x1, .int .u64 x2, .int .i64 x3, .int .u64 x4] 74))
        rw [HT.out] at this
        exact this)
      have HZ := Lib.hid (heap_alloc_new w1 (.cells #[.int .i64 x0, .int .u64 x1, .int .u64 x2, .int .i64 x3, .int .u64 x4] 74))
      have HK3 := Lib.hid ((HK.out.trans HKQ.out (fun _ _ h => h)).alloc (.cells #[.int .i64 x0, .int .u64 x1, .int .u64 x2, .int .i64 x3, .int .u64 x4] 74))
      clear b0
      obtain ⟨b0, b1, b2, b3, b4⟩ := cells5r (v := ⟨x0, x1, x2, x3, x4⟩) ((HK.out.trans HKQ.out (fun _ _ h => h)).heap (fun h => h) HR.out)
      go_wp2_with (at_builtin; refine wpList_append_qr _ rfl _ _ rfl w0.heap.size (.slice oa L.length oc) L rfl HO3.out w1.heap.size ⟨x0, x1, x2, x3, x4⟩ rfl HZ.out (by omega) (by exact HK3.out.size) ?_; intro a' c' w4 hown' hgrow' hat'; have HO4 := Lib.hid hown'; have HK4 := Lib.hid (HK3.out.grown hgrow' (fun i hi => .inr (HO3.out.base i hi).1)); clear hown' hgrow' hat')
      have HV3 := Lib.hid (HV0.out.no HK4.out)
      clear b0 b1 b2 b3 b4
      obtain ⟨b0, _, _, _, _⟩ := cells5r (v := ⟨x0, x1, x2, x3, x4⟩) (HK4.out.heap (fun h => h) HR.out)
      go_quiet (fail)
      have HKR : Hid (Kept NoB w4 (w4.drewN nq)) := Lib.hid ((Kept.refl NoB w4).drewN nq)
      obtain ⟨w5, hw5⟩ : ∃ w5, w5 = w4.drewN nq := ⟨_, rfl⟩
      rw [← hw5] at HKR ⊢
      clear hw5
      have HO5 := Lib.hid (HO4.out.no HKR.out)
      have HK5 := Lib.hid (HK4.out.trans HKR.out (fun _ _ h => h))
      have hcl : (L.length : Int) ≤ (c : Int) := by
        obtain ⟨_, _, e, h2, _⟩ := HV3.out
        injection e with _ _ e
        omega
      have HL4 : Hid ((L ++ [(⟨x0, x1, x2, x3, x4⟩ : Rw)]).length = L.length + 1) := Lib.hid (by rw [List.length_append]; rfl)
      have hcl2 : L.length ≤ c := by omega
      have HC : Hid (c ≤ maxLen ∧ (a = none → c = 0)) := Lib.hid (by
        obtain ⟨_, _, e, _, h3, h4, _⟩ := HV3.out
        injection e with e1 _ e3
        subst e1 e3
        exact ⟨h3, h4⟩)
      have hfin : ∀ (a7 : Option Addr) (c7 : Nat), c7 ≤ maxLen → (a7 = none → c7 = 0) → Hid (RwRd w5 F (.slice a7 0 c7) []) := fun a7 c7 g1 g2 => Lib.hid ⟨_, c7, rfl, Nat.zero_le _, g1, g2, fun h => absurd h (by simp)⟩
      have HFIN := Lib.hid hfin
      clear hfin
      by_cases hci : c = L.length
      · subst hci
        have HD2 := HFIN.out a 0 (Nat.zero_le _) (fun _ => rfl)
        go_wp2_with (at_builtin; refine wpList_append_qrs _ rfl _ _ rfl w0.heap.size (.slice a' (L.length + 1) c') (L ++ [⟨x0, x1, x2, x3, x4⟩]) rfl HO5.out (.slice a 0 0) [] F rfl HD2.out (by have := HL4.out; simp only [List.length_nil]; omega) (by exact HK5.out.size) (L.length + 1) (by rw [HL4.out]; rfl) ?_; intro a6 c6 w6 hown6 hgrow6 hat6)
        go_ret
        exact ⟨_, rfl, by rw [HP.out]; exact hown6.mono (show w.heap.size ≤ w0.heap.size from Nat.le_of_lt HB.out), (HK0.out.trans HK5.out (fun _ _ h => h)).grown hgrow6 (fun i hi => .inr (by have := (HO5.out.base i hi).1; have := HB.out; omega))⟩
      · cases a with
        | none => exact absurd (HC.out.2 rfl) (by omega)
        | some ad =>
          have HD2 := HFIN.out (some (ad.add (L.length * 5))) (c - L.length) (Nat.le_trans (Nat.sub_le _ _) HC.out.1) (fun h => by cases h)
          go_wp2_with (at_builtin; refine wpList_append_qrs _ rfl _ _ rfl w0.heap.size (.slice a' (L.length + 1) c') (L ++ [⟨x0, x1, x2, x3, x4⟩]) rfl HO5.out (.slice (some (ad.add (L.length * 5))) 0 (c - L.length)) [] F rfl HD2.out (by have := HL4.out; simp only [List.length_nil]; omega) (by exact HK5.out.size) (L.length + 1) (by rw [HL4.out]; rfl) ?_; intro a6 c6 w6 hown6 hgrow6 hat6)
          go_ret
          exact ⟨_, rfl, by rw [HP.out]; exact hown6.mono (show w.heap.size ≤ w0.heap.size from Nat.le_of_lt HB.out), (HK0.out.trans HK5.out (fun _ _ h => h)).grown hgrow6 (fun i hi => .inr (by have := (HO5.out.base i hi).1; have := HB.out; omega))⟩
end Go.Proofs.Ytnmclhgljpcjcaa
