/-
  Package sess: All, Len.
-/
import Derived.Test.YtnmclhgljpcjcaaSesF
namespace Go.Proofs.Ytnmclhgljpcjcaa
open Go.RowKit
set_option linter.unusedVariables false

theorem selR_all {L : List Rw} (h : ∀ r ∈ L, FineR r ∧ FitR r) : selR L 1 7 = L := by
  unfold selR
  rw [List.filter_eq_self]
  intro v hv
  have := (h v hv).1
  unfold FineR at this
  simp
  omega
theorem selR_one {L : List Rw} (h : ∀ r ∈ L, FineR r ∧ FitR r) : selR L 1 1 = [] := by
  unfold selR
  rw [List.filter_eq_nil_iff]
  intro v hv
  simp
theorem TabAt.few {w : World} {g : Nat} {L : List Rw} (h : TabAt w g L) : L.length ≤ 6 := by
  have := rows_few_aux L 1 h.srt (fun v hv => by have := (h.ok v hv).1; unfold FineR at this; omega) (by omega)
  omega
/-- What is collected behind the clients below k. -/
def SaRel (w : World) (L : List Rw) (ov iv : Value) (wr : World) : Prop :=
  ∃ k : Nat, iv = .int .i64 k ∧ 1 ≤ k ∧ k ≤ 7 ∧ POwn w.heap.size wr ov (selR L 1 k) ∧ Kept NoB w wr
set_option maxRecDepth 100000 in
theorem SAll_any (w : World) (g : Nat) (L : List Rw) (h : TabAt w g L) : Calls Try.prog 46 #[.pointer (some ⟨g, 0, none⟩)] w fun e w' => ∃ v, e = .returned v ∧ POwn w.heap.size w' v L ∧ Kept NoB w w' := by
  have HA := Lib.hid h
  have HFEW := Lib.hid h.few
  have HS := Lib.hid h.srt
  have HOK := Lib.hid h.ok
  clear h
  go_enter Try.func46, Try.ntmps46
  go_wp2
  go_loopw [3, 4] (SaRel w L) (fun _ i _ => 7 - (RowKit.intOf i).toNat)
  case atStart => exact ⟨1, rfl, by omega, by omega, by rw [show ((1 : Nat) : Int) = 1 from rfl, selR_one HOK.out]; exact POwn.nil _ _, Kept.refl _ _⟩
  case round =>
    obtain ⟨k, rfl, hk0, hk1, hown, hK⟩ := hrel
    by_cases hlt : k < 7
    · obtain ⟨a, c, rfl⟩ := hown.form
      have HK := Lib.hid hK
      have HO := Lib.hid hown
      have hk00 : (1 : Int) ≤ (k : Int) := by omega
      have hk7 : (k : Int) ≤ 6 := by omega
      have HV := Lib.hid (SGet_any wr g k L (HA.out.no hK))
      have hst := selR_step L 1 k HS.out (by omega)
      have hle := selR_len L 1 k
      obtain ⟨b, hbb⟩ : ∃ b, b = hasB L k := ⟨_, rfl⟩
      obtain ⟨⟨y0, y1, y2, y3, y4⟩, hv⟩ : ∃ v, v = (atR L k).getD rw0 := ⟨_, rfl⟩
      rw [← hbb, ← hv, show rvv ⟨y0, y1, y2, y3, y4⟩ = .agg #[.int .i64 y0, .int .u64 y1, .int .u64 y2, .int .i64 y3, .int .u64 y4] from rfl] at HV
      have HST : Hid (selR L 1 ((k + 1 : Nat) : Int) = selR L 1 k ++ if b then [⟨y0, y1, y2, y3, y4⟩] else []) := Lib.hid (by
        rw [show ((k + 1 : Nat) : Int) = (k : Int) + 1 by omega, hst, hbb, hv]
        unfold hasB
        cases atR L k <;> rfl)
      have HLE : Hid ((selR L 1 k).length ≤ 6) := Lib.hid (by have := HFEW.out; omega)
      clear hown hK hst hle hbb hv
      go_wp2_with fail
      refine HV.out.mono ?_
      rintro e w2 ⟨rfl, hk2⟩
      have HK2 := Lib.hid (HK.out.trans hk2 (fun _ _ h => h))
      have HO2 := Lib.hid (HO.out.no hk2)
      clear hk2
      cases b
      · go_wp2
        exact ⟨⟨k + 1, by go_num, by omega, by omega, by rw [HST.out, if_neg (by simp), List.append_nil]; exact HO2.out.no ((Kept.refl NoB w2).alloc _), HK2.out.alloc _⟩, by simp [RowKit.intOf]; omega⟩
      · have HO3 := Lib.hid ((HO2.out.no ((Kept.refl NoB w2).alloc (.cells #[.int .i64 y0, .int .u64 y1, .int .u64 y2, .int .i64 y3, .int .u64 y4] 75))).no ((Kept.refl NoB _).alloc (.cells #[.int .i64 y0, .int .u64 y1, .int .u64 y2, .int .i64 y3, .int .u64 y4] 75)))
        have hz := heap_alloc_new (w2.alloc (.cells #[.int .i64 y0, .int .u64 y1, .int .u64 y2, .int .i64 y3, .int .u64 y4] 75)) (.cells #[.int .i64 y0, .int .u64 y1, .int .u64 y2, .int .i64 y3, .int .u64 y4] 75)
        rw [show (w2.alloc (.cells #[.int .i64 y0, .int .u64 y1, .int .u64 y2, .int .i64 y3, .int .u64 y4] 75)).heap.size = w2.heap.size + 1 by simp] at hz
        have HZ := Lib.hid hz
        have HK3 := Lib.hid ((HK2.out.alloc (.cells #[.int .i64 y0, .int .u64 y1, .int .u64 y2, .int .i64 y3, .int .u64 y4] 75)).alloc (.cells #[.int .i64 y0, .int .u64 y1, .int .u64 y2, .int .i64 y3, .int .u64 y4] 75))
        clear hz
        go_wp2_with (at_builtin; refine wpList_append_pr _ rfl _ _ rfl w.heap.size (.slice a (selR L 1 k).length c) (selR L 1 k) rfl HO3.out (w2.heap.size + 1) ⟨y0, y1, y2, y3, y4⟩ rfl HZ.out (by have := HLE.out; omega) (by exact HK3.out.size) ?_; intro a' c' w' hown' hgrow' hat')
        exact ⟨⟨k + 1, by go_num, by omega, by omega, by rw [HST.out, if_pos trivial]; exact hown', HK3.out.grown hgrow' (fun i hi => .inr (HO3.out.base i hi).1)⟩, by simp [RowKit.intOf]; omega⟩
    · obtain rfl : k = 7 := by omega
      obtain ⟨a, c, rfl⟩ := hown.form
      rw [show ((7 : Nat) : Int) = 7 from rfl, selR_all HOK.out] at hown ⊢
      have HO := Lib.hid hown
      have HK := Lib.hid hK
      clear hown hK
      go_wp2
      go_ret
      exact ⟨_, rfl, HO.out, HK.out⟩
set_option maxRecDepth 100000 in
theorem SLen_any (w : World) (g : Nat) (L : List Rw) (h : TabAt w g L) : Calls Try.prog 44 #[.pointer (some ⟨g, 0, none⟩)] w fun e w' => e = .returned (.int .i64 L.length) ∧ Kept NoB w w' := by
  have HA := Lib.hid (SAll_any w g L h)
  clear h
  go_enter Try.func44, Try.ntmps44
  go_wp2_with fail
  refine HA.out.mono ?_
  rintro e w2 ⟨v, rfl, hv, hk⟩
  obtain ⟨a, c, rfl⟩ := hv.form
  have HK := Lib.hid hk
  clear hk hv
  go_wp2
  go_ret
  exact ⟨rfl, HK.out⟩
def SnRel (w : World) (ov iv : Value) (wr : World) : Prop := ∃ k : Nat, iv = .int .i64 k ∧ k ≤ 7 ∧ ov = .slice none 0 0 ∧ Kept NoB w wr
theorem SAll_nil (w : World) : Calls Try.prog 46 #[.pointer none] w fun e w' => e = .returned (.slice none 0 0) ∧ Kept NoB w w' := by
  go_enter Try.func46, Try.ntmps46
  go_wp2
  go_loopw [3, 4] (SnRel w) (fun _ i _ => 7 - (RowKit.intOf i).toNat)
  case atStart => exact ⟨1, rfl, by omega, rfl, Kept.refl _ _⟩
  case round =>
    obtain ⟨k, rfl, hk1, rfl, hK⟩ := hrel
    by_cases hlt : k < 7
    · have HK := Lib.hid hK
      have hk7 : (k : Int) ≤ 6 := by omega
      clear hK
      go_wp2_with fail
      refine (SGet_nil wr k).mono ?_
      rintro e w2 ⟨rfl, hk2⟩
      rw [show rvv rw0 = .agg #[.int .i64 0, .int .u64 0, .int .u64 0, .int .i64 0, .int .u64 0] from rfl]
      have HK2 := Lib.hid (HK.out.trans hk2 (fun _ _ h => h))
      clear hk2
      go_wp2
      exact ⟨⟨k + 1, by go_num, by omega, rfl, HK2.out.alloc _⟩, by simp [RowKit.intOf]; omega⟩
    · obtain rfl : k = 7 := by omega
      have HK := Lib.hid hK
      clear hK
      go_wp2
      go_ret
      exact ⟨rfl, HK.out⟩
theorem SLen_nil (w : World) : Calls Try.prog 44 #[.pointer none] w fun e w' => e = .returned (.int .i64 0) ∧ Kept NoB w w' := by
  go_enter Try.func44, Try.ntmps44
  go_wp2_with fail
  refine (SAll_nil w).mono ?_
  rintro e w2 ⟨rfl, hk⟩
  have HK := Lib.hid hk
  clear hk
  go_wp2
  go_ret
  exact ⟨rfl, HK.out⟩
end Go.Proofs.Ytnmclhgljpcjcaa
