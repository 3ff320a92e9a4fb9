/-
  The chapter's At and From; whether two slices of votes are the same.
-/
import Derived.Test.YtjbchnildeeicaaAccG
namespace Go.Proofs.Ytjbchnildeeicaa
open Go.RowKit
set_option linter.unusedVariables false

theorem atV_skip {L : List Vt} {s : Int} {k : Nat} (h : ∀ j (hj : j < L.length), j < k → L[j].s ≠ s) : atV L s = atV (L.drop k) s := by
  induction k generalizing L with
  | zero => rfl
  | succ k ih =>
    cases L with
    | nil => rfl
    | cons x r =>
      have h0 := h 0 (by simp) (by omega)
      rw [atV_cons, if_neg (by simpa using h0), List.drop_succ_cons]
      exact ih (fun j hj hk => by have := h (j + 1) (by simpa using hj) (by omega); simpa using this)
theorem VRd.at_ {w : World} {F : Nat → Prop} {a : Option Addr} {c : Nat} {L : List Vt} (h : VRd w F (.slice a L.length c) L) (j : Nat) (hj : j < L.length) : ∃ b o, a = some ⟨b, o, none⟩ ∧ F b ∧ b < w.heap.size ∧ VtAt w b (o + j * 6) L[j] := by
  obtain ⟨a', c', e, h2, h3, h4, h5⟩ := h
  injection e with e1 e2 e3
  subst e1 e3
  obtain ⟨b, o, e, hF, hb, hc⟩ := h5 (by omega)
  exact ⟨b, o, e, hF, hb, hc j hj⟩
def RaRel (w : World) (s : Int) (L : List Vt) (iv : Value) (wr : World) : Prop := ∃ k : Nat, k ≤ L.length ∧ iv = .int .i64 k ∧ (∀ j (hj : j < L.length), j < k → L[j].s ≠ s) ∧ wr = w
set_option maxRecDepth 100000 in
theorem RAtV_any (w : World) (v : Value) (s : Int) (L : List Vt) (F : Nat → Prop) (h : VRd w F v L) : Calls Try.prog 14 #[v, .int .i64 s] w fun e w' =>
    e = .returned (.tuple #[vvv ((atV L s).getD vt0), .bool (atV L s).isSome]) ∧ Kept NoB w w' := by
  have HK0 := Lib.hid ((Kept.refl NoB w).alloc (.cells #[.int .i64 0, .int .u64 0, .int .i64 0, .int .i64 0, .int .u64 0, .int .i64 0] 36))
  have HR := Lib.hid (heap_alloc_new w (.cells #[.int .i64 0, .int .u64 0, .int .i64 0, .int .i64 0, .int .u64 0, .int .i64 0] 36))
  have h1 := h.no HK0.out
  have hl := h.len
  have hnn : (L.length : Int) ≤ 9223372036854775807 := by omega
  obtain ⟨a, c, rfl⟩ := h.form
  have HV := Lib.hid h1
  clear h h1 hl
  go_enter Try.func14, Try.ntmps14
  go_wp2
  go_loopw [6] (RaRel (w.alloc (.cells #[.int .i64 0, .int .u64 0, .int .i64 0, .int .i64 0, .int .u64 0, .int .i64 0] 36)) s L) (fun i _ => L.length - (RowKit.intOf i).toNat)
  case atStart => exact ⟨0, Nat.zero_le _, rfl, fun j _ h => absurd h (by omega), rfl⟩
  case round =>
    obtain ⟨k, hk, rfl, hno, rfl⟩ := hrel
    have hk0 : (0 : Int) ≤ (k : Int) := by omega
    by_cases hlt : k < L.length
    · have hk1 : (k : Int) < (L.length : Int) := by omega
      obtain ⟨b, o, rfl, _, hb, e0, e1, e2, e3, e4, e5⟩ := HV.out.at_ k hlt
      obtain ⟨y, hy⟩ : ∃ y, y = L[k] := ⟨_, rfl⟩
      have HY := Lib.hid hy
      rw [← hy] at e0 e1 e2 e3 e4 e5
      clear hy
      obtain ⟨y0, y1, y2, y3, y4, y5⟩ := y
      try simp only at e0 e1 e2 e3 e4 e5
      by_cases hs : y0 = s
      · subst hs
        have HX : Hid (atV L y0 = some ⟨y0, y1, y2, y3, y4, y5⟩) := Lib.hid (by
          rw [atV_skip (k := k) hno, List.drop_eq_getElem_cons hlt, atV_cons, ← HY.out, if_pos rfl])
        obtain ⟨r0, r1, r2, r3, r4, r5⟩ := cells6 (v := vt0) HR.out
        have z0 := blkA_frozen HR.out 0
        have z1 := blkA_frozen HR.out 1
        have z2 := blkA_frozen HR.out 2
        have z3 := blkA_frozen HR.out 3
        have z4 := blkA_frozen HR.out 4
        have z5 := blkA_frozen HR.out 5
        go_wp2
        have h1 := heap_alloc_new w (.cells #[.int .i64 y0, .int .u64 y1, .int .i64 y2, .int .i64 y3, .int .u64 y4, .int .i64 y5] 36)
        clear r0 r1 r2 r3 r4 r5 z0 z1 z2 z3 z4 z5
        obtain ⟨r0, r1, r2, r3, r4, r5⟩ := cells6 (v := ⟨y0, y1, y2, y3, y4, y5⟩) h1
        have hk2 : Kept NoB w (w.alloc (.cells #[.int .i64 y0, .int .u64 y1, .int .i64 y2, .int .i64 y3, .int .u64 y4, .int .i64 y5] 36)) := (Kept.refl _ _).alloc _
        clear h1
        rw [HX.out]
        generalize hW : World.alloc _ _ = W at r0 r1 r2 r3 r4 r5 hk2 ⊢
        exact bodyPost_ret (v := .tuple #[.agg #[.int .i64 y0, .int .u64 y1, .int .i64 y2, .int .i64 y3, .int .u64 y4, .int .i64 y5], .bool true]) (by simp [results, Try.results14, go_sem, r0, r1, r2, r3, r4, r5]) rfl ⟨rfl, hk2⟩
      · have hsb : (y0 == s) = false := by simpa using hs
        go_wp2
        exact ⟨⟨k + 1, by omega, by go_num, fun j hj hjk => by
          rcases Nat.lt_or_ge j k with h | h
          · exact hno j hj h
          · obtain rfl : j = k := by omega
            rw [← HY.out]
            exact hs, rfl⟩, by simp [RowKit.intOf]; omega⟩
    · have hkn : k = L.length := by omega
      have HX : Hid (atV L s = none) := Lib.hid (by
        rw [atV_skip (k := k) hno, List.drop_eq_nil_of_le (by omega)]
        rfl)
      subst hkn
      obtain ⟨r0, r1, r2, r3, r4, r5⟩ := cells6 (v := vt0) HR.out
      have z0 := blkA_frozen HR.out 0
      go_wp2
      have h1 := heap_alloc_new w (.cells #[.int .i64 0, .int .u64 0, .int .i64 0, .int .i64 0, .int .u64 0, .int .i64 0] 36)
      clear r0 r1 r2 r3 r4 r5 z0
      obtain ⟨r0, r1, r2, r3, r4, r5⟩ := cells6 (v := vt0) h1
      have hk2 : Kept NoB w (w.alloc (.cells #[.int .i64 0, .int .u64 0, .int .i64 0, .int .i64 0, .int .u64 0, .int .i64 0] 36)) := (Kept.refl _ _).alloc _
      clear h1
      rw [HX.out]
      generalize hW : World.alloc _ _ = W at r0 r1 r2 r3 r4 r5 hk2 ⊢
      exact bodyPost_ret (v := .tuple #[.agg #[.int .i64 0, .int .u64 0, .int .i64 0, .int .i64 0, .int .u64 0, .int .i64 0], .bool false]) (by simp [results, Try.results14, go_sem, r0, r1, r2, r3, r4, r5]; simp [vt0]) rfl ⟨rfl, hk2⟩
theorem fromV_take {L : List Vt} {f : Int} {k : Nat} (h : k < L.length) : fromV (L.take (k + 1)) f = fromV (L.take k) f ++ if f ≤ L[k].s then [L[k]] else [] := by
  unfold fromV
  rw [List.take_succ_eq_append_getElem h, List.filter_append]
  congr 1
  by_cases hf : f ≤ L[k].s
  · rw [if_pos hf]; simp [hf]
  · rw [if_neg hf]; simp [hf]
def RfRel (w : World) (f : Int) (L : List Vt) (ov iv : Value) (wr : World) : Prop := ∃ k : Nat, k ≤ L.length ∧ iv = .int .i64 k ∧ VOwn w.heap.size wr ov (fromV (L.take k) f) ∧ Kept NoB w wr
set_option maxRecDepth 100000 in
theorem RFrom_any (w : World) (v : Value) (f : Int) (L : List Vt) (F : Nat → Prop) (h : VRd w F v L) (hl : L.length ≤ 100000) : Calls Try.prog 19 #[v, .int .i64 f] w fun e w' =>
    ∃ u, e = .returned u ∧ VOwn w.heap.size w' u (fromV L f) ∧ Kept NoB w w' := by
  obtain ⟨a, c, rfl⟩ := h.form
  have HV := Lib.hid h
  have hnn : (L.length : Int) ≤ 100000 := by omega
  clear h
  go_enter Try.func19, Try.ntmps19
  go_wp2
  go_loopw [5, 6] (RfRel w f L) (fun _ i _ => L.length - (RowKit.intOf i).toNat)
  case atStart => exact ⟨0, Nat.zero_le _, rfl, VOwn.nil _ _, Kept.refl _ _⟩
  case round =>
    obtain ⟨k, hk, rfl, hown, hK⟩ := hrel
    have hk0 : (0 : Int) ≤ (k : Int) := by omega
    have HK := Lib.hid hK
    have HO := Lib.hid hown
    obtain ⟨oa, oc, rfl⟩ := hown.form
    by_cases hlt : k < L.length
    · have hk1 : (k : Int) < (L.length : Int) := by omega
      obtain ⟨b, o, rfl, _, hb, e0, e1, e2, e3, e4, e5⟩ := (HV.out.no hK).at_ k hlt
      have hst := fromV_take (f := f) hlt
      have hln : (fromV (L.take k) f).length ≤ 100000 := by
        have h1 : (fromV (L.take k) f).length ≤ (L.take k).length := List.length_filter_le _ _
        have h2 := List.length_take_le k L
        omega
      have HLN := Lib.hid hln
      obtain ⟨y, hy⟩ : ∃ y, y = L[k] := ⟨_, rfl⟩
      rw [← hy] at e0 e1 e2 e3 e4 e5 hst
      have HST := Lib.hid hst
      clear hy hst hln hown hK
      obtain ⟨y0, y1, y2, y3, y4, y5⟩ := y
      try simp only at e0 e1 e2 e3 e4 e5
      by_cases hs : f ≤ y0
      · have HO3 := Lib.hid (HO.out.no ((Kept.refl NoB wr).alloc (.cells #[.int .i64 y0, .int .u64 y1, .int .i64 y2, .int .i64 y3, .int .u64 y4, .int .i64 y5] 36)))
        have HZ := Lib.hid (heap_alloc_new wr (.cells #[.int .i64 y0, .int .u64 y1, .int .i64 y2, .int .i64 y3, .int .u64 y4, .int .i64 y5] 36))
        have HK3 := Lib.hid (HK.out.alloc (.cells #[.int .i64 y0, .int .u64 y1, .int .i64 y2, .int .i64 y3, .int .u64 y4, .int .i64 y5] 36))
        go_wp2_with (at_builtin; refine wpList_append_vt _ rfl _ _ rfl w.heap.size (.slice oa (fromV (L.take k) f).length oc) (fromV (L.take k) f) rfl HO3.out wr.heap.size ⟨y0, y1, y2, y3, y4, y5⟩ rfl HZ.out HLN.out (by exact HK3.out.size) ?_; intro a' c' w' hown' hgrow' hat')
        exact ⟨⟨k + 1, by omega, by go_num, by rw [HST.out, if_pos hs]; exact hown', HK3.out.grown hgrow' (fun i hi => .inr (HO3.out.base i hi).1)⟩, by simp [RowKit.intOf]; omega⟩
      · have hsb : decide (f ≤ y0) = false := decide_eq_false hs
        go_wp2
        exact ⟨⟨k + 1, by omega, by go_num, by rw [HST.out, if_neg hs, List.append_nil]; exact HO.out, HK.out⟩, by simp [RowKit.intOf]; omega⟩
    · have hkn : k = L.length := by omega
      subst hkn
      have HX : Hid (VOwn w.heap.size wr (.slice oa (fromV (L.take L.length) f).length oc) (fromV L f)) := Lib.hid (by
        have := HO.out
        rw [List.take_length] at this ⊢
        exact this)
      clear hown hK
      go_wp2
      go_ret
      exact ⟨_, rfl, HX.out, HK.out⟩
end Go.Proofs.Ytjbchnildeeicaa
