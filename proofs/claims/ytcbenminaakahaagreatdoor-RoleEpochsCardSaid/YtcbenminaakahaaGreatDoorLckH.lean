/-
  Package letter: partsOf, of any kind.
-/
import Derived.Test.YtcbenminaakahaaGreatDoorLckG
namespace Go.Proofs.YtcbenminaakahaaGreatDoor
open Go.RowKit
set_option linter.unusedVariables false
set_option linter.unusedSimpArgs false

theorem bit_and : ∀ kd : Fin 21, ∀ i : Fin 18, bits .and .u32 (kpTab.getD kd.1 0) (bitN i.1) = if (kpTab.getD kd.1 0).toNat.testBit i.1 then bitN i.1 else 0 := by decide
theorem prtK_len (kd : Nat) : (prtK kd).length ≤ 18 := by
  have := List.length_filter_le (fun i => (kpTab.getD kd 0).toNat.testBit i) (List.range 18)
  rw [List.length_range] at this
  exact this
/-- The parts of a kind below i. -/
def prtB (kd i : Nat) : List Nat := (List.range i).filter (fun i => (kpTab.getD kd 0).toNat.testBit i)
theorem prtB_18 (kd : Nat) : prtB kd 18 = prtK kd := rfl
theorem prtB_succ (kd i : Nat) : prtB kd (i + 1) = prtB kd i ++ (if (kpTab.getD kd 0).toNat.testBit i then [i] else []) := by
  unfold prtB
  rw [List.range_succ, List.filter_append]
  congr 1
  cases h : (kpTab.getD kd 0).toNat.testBit i <;> simp only [List.filter, h] <;> rfl
theorem prtB_len (kd i : Nat) : (prtB kd i).length ≤ i := by
  have := List.length_filter_le (fun i => (kpTab.getD kd 0).toNat.testBit i) (List.range i)
  rw [List.length_range] at this
  exact this
/-- What partsOf tells. -/
def PartsEnd (w : World) (kd : Nat) (e : Ending) (w' : World) : Prop :=
  ∃ a c ps, e = .returned (.slice a (prtK kd).length c) ∧ POw w.heap.size w' (.slice a (prtK kd).length c) ps ∧ PartsOk (prtK kd) w.heap.size w' ps ∧ Kept NoB w w'
def PtsRel (w : World) (kd : Nat) (ov bv : Value) (wr : World) : Prop :=
  ∃ i ps, i ≤ 18 ∧ bv = .int .u32 (bitN i) ∧ POw w.heap.size wr ov ps ∧ PartsOk (prtB kd i) w.heap.size wr ps ∧ Kept NoB w wr
theorem bit_facts : ∀ i : Fin 18, (decide (bitN i.1 < 262144) = true ∧ bitN (i.1 + 1) = bitN i.1 * 2 ∧ 0 < bitN i.1 ∧ bitN i.1 ≤ 131072 ∧ bitN i.1 ≠ 0) := by decide
set_option maxRecDepth 100000 in
set_option maxHeartbeats 4000000 in
theorem partsOf_any (w : World) (kd : Nat) (hkd : kd < 21) (ht : Tab10 w) : Calls Tryz.prog 58 #[.int .i64 kd] w (PartsEnd w kd) := by
  obtain ⟨i0, hi0, hz0, hz1, hz2⟩ := info_parts info_part
  have HT := Lib.hid ht
  have HKD := Lib.hid hkd
  have hk0 : (0 : Int) ≤ (kd : Int) := by omega
  have hk1 : (kd : Int) < 21 := by omega
  clear ht hkd
  go_enter Tryz.func58, Tryz.ntmps58
  go_wp2
  go_loopw [3, 4] (PtsRel w kd) (fun _ b _ => 262144 - (RowKit.intOf b).toNat)
  case atStart => exact ⟨0, [], by omega, rfl, POw.nil _ _, ⟨rfl, fun j hj => absurd hj (by simp [prtB])⟩, Kept.refl _ _⟩
  case round =>
    obtain ⟨i, ps, hi, rfl, hown, hps, hK⟩ := hrel
    have hcell := (HT.out.kept hK (fun h => h)).cell kd HKD.out
    have HO := Lib.hid hown
    have HP := Lib.hid hps
    have HK := Lib.hid hK
    have hpl : ps.length ≤ 18 := by
      rw [hps.1]
      have := prtB_len kd i
      omega
    obtain ⟨oa, oc, rfl⟩ := hown.form
    clear hown hps hK
    by_cases h18 : i < 18
    · obtain ⟨f1, f2, f3, f4, f5⟩ := bit_facts ⟨i, h18⟩
      simp only at f1 f2 f3 f4 f5
      have fand := bit_and ⟨kd, HKD.out⟩ ⟨i, h18⟩
      simp only at fand
      have HP2 := Lib.hid (partAt_ok i h18)
      obtain ⟨m, hm⟩ : ∃ m, m = kpTab.getD kd 0 := ⟨_, rfl⟩
      obtain ⟨b, hb⟩ : ∃ b, b = bitN i := ⟨_, rfl⟩
      have HSU := Lib.hid (prtB_succ kd i)
      have hnat : (kpTab.getD kd 0).toNat = m.toNat := by rw [hm]
      rw [← hm] at hcell fand
      rw [hnat] at *
      have HBB := Lib.hid hb
      have HMM := Lib.hid hm
      have HSU := Lib.hid (prtB_succ kd i)
      rw [← hb] at f1 f2 f3 f4 f5 fand HP2
      obtain ⟨tb, htb⟩ : ∃ tb, tb = m.toNat.testBit i := ⟨_, rfl⟩
      rw [← htb] at fand
      have HTB := Lib.hid htb
      rw [← hb]
      clear hm hb htb hnat
      cases tb with
      | false =>
        simp only [Bool.false_eq_true, if_false] at fand
        have HEQ : Hid (prtB kd (i + 1) = prtB kd i) := Lib.hid (by have h1 := HSU.out; rw [← HMM.out, ← HTB.out] at h1; simpa using h1)
        go_wp2
        exact ⟨⟨i + 1, ps, by omega, by rw [f2], HO.out, by rw [HEQ.out]; exact HP.out, HK.out⟩, by simp [RowKit.intOf]; omega⟩
      | true =>
        simp only [if_true] at fand
        have HEQ : Hid (prtB kd (i + 1) = prtB kd i ++ [i]) := Lib.hid (by have h1 := HSU.out; rw [← HMM.out, ← HTB.out] at h1; simpa using h1)
        have hbz : (b != 0) = true := by simpa using f5
        go_wp2_with fail
        refine (HP2.out _ w.heap.size HK.out.size).mono ?_
        rintro e w2 ⟨⟨xa, xb, xc, xd⟩, rfl, hp2, hk2⟩
        simp only [q4v]
        have hka := hk2.alloc (.cells #[xa, xb, xc, xd] 106 (0, 0))
        have HO2 := Lib.hid (HO.out.kept hka (fun _ _ h => h))
        have HPP := Lib.hid (HP.out.kept hka (fun _ _ h => h))
        have HX2 : Hid (PartOk i w.heap.size _ ⟨xa, xb, xc, xd⟩) := Lib.hid (hp2.kept ((Kept.refl NoB w2).alloc (.cells #[xa, xb, xc, xd] 106 (0, 0))) (fun _ _ h => h))
        have HK2 := Lib.hid (HK.out.trans hka (fun _ _ h => h))
        have HB2 := Lib.hid (heap_alloc_new w2 (.cells #[xa, xb, xc, xd] 106 (0, 0)))
        have HONE : Hid (∀ u ∈ q4l ⟨xa, xb, xc, xd⟩, u.oneCell' = true) := Lib.hid hp2.1
        clear hka hp2 hk2
        go_wp2_with (at_builtin; refine wpList_append_p1 99 i0 Tryz.underlying99 hi0 hz0 hz1 hz2 _ rfl _ _ rfl w.heap.size (.slice oa ps.length oc) ps rfl HO2.out w2.heap.size ⟨xa, xb, xc, xd⟩ _ rfl HB2.out HONE.out (by omega) HK2.out.size (ps.length + 1) rfl ?_; intro a' c' w' hown' hgrow' hat')
        have hk4 : Kept NoB w w' := HK2.out.grown hgrow' (fun i hi => .inr (HO2.out.base i hi).1)
        have hk5 : Kept (fun i => some i = (Value.slice oa ps.length oc).ownBlock) (w2.alloc (.cells #[xa, xb, xc, xd] 106 (0, 0))) w' := (Kept.refl _ _).grown hgrow' (fun i hi => .inl hi.symm)
        refine ⟨⟨i + 1, ps ++ [⟨xa, xb, xc, xd⟩], by omega, by rw [f2], hown', ?_, hk4⟩, by simp [RowKit.intOf]; omega⟩
        rw [HEQ.out]
        exact PartsOk.snoc (HPP.out.grow HO2.out hk5) (HX2.out.grow HO2.out hk5)
    · obtain rfl : i = 18 := by omega
      have hbit : bitN 18 = 262144 := rfl
      rw [hbit] at *
      go_wp2
      go_ret
      refine ⟨oa, oc, ps, ?_, ?_, HP.out, HK.out⟩
      · have h1 := HP.out.1
        rw [prtB_18] at h1
        rw [← h1]
        rfl
      · have h1 := HP.out.1
        rw [prtB_18] at h1
        rw [← h1]
        exact HO.out
end Go.Proofs.YtcbenminaakahaaGreatDoor
