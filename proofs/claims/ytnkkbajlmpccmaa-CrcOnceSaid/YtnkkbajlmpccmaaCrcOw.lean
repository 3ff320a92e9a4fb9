/-
  The walk of CrcOnce.
-/
import Derived.Test.YtnkkbajlmpccmaaCrcN
import Derived.Test.YtnkkbajlmpccmaaOnce
namespace Go.Proofs.Ytnkkbajlmpccmaa
open Go.RowKit

set_option maxRecDepth 100000 in
theorem CrcOnce_any (u v : Value) (zs l0 : List Int) (w : World) (hz : ISl w u zs) (h : BSl w (fun k => k < w.heap.size) v l0) :
    Calls Try.prog 12 #[u, v] w fun e w' => e = .returned (.bool true) ∧ Kept NoB w w' := by
  have HV := Lib.hid h
  obtain ⟨ua, ucap, rfl, hzl, hzc⟩ := hz
  have hzl2 : (zs.length : Int) ≤ 9223372036854775807 := by omega
  have HZ := Lib.hid hzc
  clear h hzc
  go_enter Try.func12, Try.ntmps12
  go_wp2_with fail
  refine (Cut_any _ l0 60 _ _ HV.out (by omega)).mono ?_
  rintro e w1 ⟨c, rfl, hc, rfl⟩
  obtain ⟨l, hl⟩ : ∃ m, m = l0.take 60 := ⟨_, rfl⟩
  have hl60 : l.length ≤ 60 := by rw [hl, List.length_take]; omega
  rw [← hl] at hc
  have HC := Lib.hid hc
  obtain ⟨ca, cc, rfl, _⟩ := hc
  clear HV hl
  go_wp2_with fail
  refine (CNew_any _).mono ?_
  rintro e w1 ⟨rfl, ht1, hk1⟩
  have HT1 := Lib.hid ht1
  have HK1 := Lib.hid hk1
  clear ht1 hk1
  go_wp2_with fail
  go_loopw [6] (fun i wr => ∃ (j : Nat) (m : Bool), j ≤ zs.length ∧ i = .int .i64 j ∧ TabAt wr w.heap.size m ∧ Kept (fun k => w.heap.size ≤ k) w wr) (fun i _ => zs.length - (intOf i).toNat)
  case atStart => exact ⟨0, false, Nat.zero_le _, rfl, HT1.out, HK1.out.mono (fun _ _ h => h.elim)⟩
  case round =>
    obtain ⟨j, m, hj, rfl, hT, hK⟩ := hrel
    have HT := Lib.hid hT
    have HK := Lib.hid hK
    have HB := Lib.hid (HC.out.kept hK (fun k h1 h2 => by omega))
    have hgl := hT.lt
    clear hT hK
    by_cases hlt : j < zs.length ∧ j < 20
    · obtain ⟨hlt1, hlt2⟩ := hlt
      obtain ⟨b, o, rfl, hb, hcs⟩ := HZ.out (by omega)
      have hcj0 := hcs j hlt1
      have hcj := HK.out.cell (p := ⟨b, o + j, none⟩) (fun h2 => by have : w.heap.size ≤ b := h2; omega) hcj0
      have hbg : ¬ One w.heap.size b := fun h2 => by have : b = w.heap.size := h2; omega
      have hj0 : (0 : Int) ≤ (j : Int) := by omega
      have hj1 : (j : Int) < (zs.length : Int) := by omega
      have hj2 : (j : Int) < 20 := by omega
      obtain ⟨x, hx⟩ : ∃ x, x = zs.getD j 0 := ⟨_, rfl⟩
      rw [← hx] at hcj
      obtain ⟨mv, hmv⟩ : ∃ mv : Int, mv = (if m then 1 else 0) := ⟨_, rfl⟩
      have HMV := Lib.hid hmv
      clear hcs hcj0 hx hmv
      by_cases x0 : x = 0
      · subst x0
        go_wp2_with fail
        refine (Made_any w.heap.size m _ HT.out).mono ?_
        rintro e w3 ⟨rfl, rfl⟩
        rw [← HMV.out]
        go_wp2_with fail
        refine (COf_any w.heap.size m _ 1 (fun _ => l) (fun k => k < w.heap.size ∨ k = wr.heap.size) _ (HT.out.kept ((Kept.refl NoB _).alloc _) (fun h => h)) (PAt.one HB.out _) (by omega)).mono ?_
        rintro e w4 ⟨rfl, ht4, hk4⟩
        have HT4 := Lib.hid ht4
        have HK4 := Lib.hid (HK.out.trans (((Kept.refl (One w.heap.size) wr).alloc _).trans hk4 (fun _ _ h => h)) (fun i _ h2 => by have e : i = w.heap.size := h2; omega))
        clear ht4 hk4
        go_wp2_with fail
        refine (Made_any w.heap.size true _ HT4.out).mono ?_
        rintro e w5 ⟨rfl, rfl⟩
        go_wp2
        exact ⟨⟨j + 1, true, by omega, by go_num, HT4.out, HK4.out⟩, by simp [intOf]; omega⟩
      by_cases x1 : x = 1
      · subst x1
        clear x0
        go_wp2_with fail
        refine (Made_any w.heap.size m _ HT.out).mono ?_
        rintro e w3 ⟨rfl, rfl⟩
        rw [← HMV.out]
        go_wp2_with fail
        refine (CMore_any w.heap.size m 7 _ l (fun k => k < w.heap.size) _ HT.out (by decide) HB.out (by omega)).mono ?_
        rintro e w4 ⟨rfl, ht4, hk4⟩
        have HT4 := Lib.hid ht4
        have HK4 := Lib.hid (HK.out.trans (hk4) (fun i _ h2 => by have e : i = w.heap.size := h2; omega))
        clear ht4 hk4
        go_wp2_with fail
        refine (Made_any w.heap.size true _ HT4.out).mono ?_
        rintro e w5 ⟨rfl, rfl⟩
        go_wp2
        exact ⟨⟨j + 1, true, by omega, by go_num, HT4.out, HK4.out⟩, by simp [intOf]; omega⟩
      by_cases x2 : x = 2
      · subst x2
        clear x0 x1
        go_wp2_with fail
        refine (Made_any w.heap.size m _ HT.out).mono ?_
        rintro e w3 ⟨rfl, rfl⟩
        rw [← HMV.out]
        go_wp2_with fail
        refine (Seal_any w.heap.size m _ l (fun k => k < w.heap.size) _ HT.out HB.out (by omega) (by omega)).mono ?_
        rintro e w4 ⟨v4, rfl, hv4, ht4, hk4⟩
        have HT4 := Lib.hid ht4
        have HK4 := Lib.hid (HK.out.trans (hk4) (fun i _ h2 => by have e : i = w.heap.size := h2; omega))
        clear ht4 hk4
        go_wp2_with fail
        refine (Made_any w.heap.size true _ HT4.out).mono ?_
        rintro e w5 ⟨rfl, rfl⟩
        go_wp2
        exact ⟨⟨j + 1, true, by omega, by go_num, HT4.out, HK4.out⟩, by simp [intOf]; omega⟩
      by_cases x3 : x = 3
      · subst x3
        clear x0 x1 x2
        go_wp2_with fail
        refine (Made_any w.heap.size m _ HT.out).mono ?_
        rintro e w3 ⟨rfl, rfl⟩
        rw [← HMV.out]
        go_wp2_with fail
        refine (Fits_any w.heap.size m _ l (fun k => k < w.heap.size) _ HT.out HB.out (by omega) (by omega)).mono ?_
        rintro e w4 ⟨rfl, ht4, hk4⟩
        have HT4 := Lib.hid ht4
        have HK4 := Lib.hid (HK.out.trans (hk4) (fun i _ h2 => by have e : i = w.heap.size := h2; omega))
        clear ht4 hk4
        go_wp2_with fail
        refine (Made_any w.heap.size true _ HT4.out).mono ?_
        rintro e w5 ⟨rfl, rfl⟩
        go_wp2
        exact ⟨⟨j + 1, true, by omega, by go_num, HT4.out, HK4.out⟩, by simp [intOf]; omega⟩
      have b0 : (x == 0) = false := by simpa using x0
      have b1 : (x == 1) = false := by simpa using x1
      have b2 : (x == 2) = false := by simpa using x2
      have b3 : (x == 3) = false := by simpa using x3
      have hcase : (0 ≤ x ∧ x ≤ 255) ∨ x < 0 ∨ (0 ≤ x ∧ 255 < x) := by omega
      rcases hcase with ⟨r0, r1⟩ | hcase
      · have HIF := Lib.hid (show (if 0 ≤ x ∧ x ≤ 255 then true else m) = true from if_pos ⟨r0, r1⟩)
        go_wp2_with fail
        refine (Made_any w.heap.size m _ HT.out).mono ?_
        rintro e w3 ⟨rfl, rfl⟩
        rw [← HMV.out]
        go_wp2_with fail
        refine (CAt_any w.heap.size m x _ HT.out).mono ?_
        rintro e w4 ⟨rfl, ht4, hk4⟩
        rw [HIF.out] at ht4
        have HT4 := Lib.hid ht4
        have HK4 := Lib.hid (HK.out.trans hk4 (fun i _ h2 => by have e : i = w.heap.size := h2; omega))
        clear ht4 hk4
        go_wp2_with fail
        refine (Made_any w.heap.size true _ HT4.out).mono ?_
        rintro e w5 ⟨rfl, rfl⟩
        go_wp2
        exact ⟨⟨j + 1, true, by omega, by go_num, HT4.out, HK4.out⟩, by simp [intOf]; omega⟩
      · have HIF := Lib.hid (show (if 0 ≤ x ∧ x ≤ 255 then true else m) = m from if_neg (by omega))
        rcases hcase with r0 | ⟨r0, r1⟩
        all_goals
          go_wp2_with fail
          refine (Made_any w.heap.size m _ HT.out).mono ?_
          rintro e w3 ⟨rfl, rfl⟩
          rw [← HMV.out]
          go_wp2_with fail
          refine (CAt_any w.heap.size m x _ HT.out).mono ?_
          rintro e w4 ⟨rfl, ht4, hk4⟩
          rw [HIF.out] at ht4
          have HT4 := Lib.hid ht4
          have HK4 := Lib.hid (HK.out.trans hk4 (fun i _ h2 => by have e : i = w.heap.size := h2; omega))
          clear ht4 hk4
          go_wp2_with fail
          refine (Made_any w.heap.size m _ HT4.out).mono ?_
          rintro e w5 ⟨rfl, rfl⟩
          rw [← HMV.out]
          go_wp2
          exact ⟨⟨j + 1, m, by omega, by go_num, HT4.out, HK4.out⟩, by simp [intOf]; omega⟩
    · have hcase : (¬ j < zs.length) ∨ (j < zs.length ∧ 20 ≤ j) := by omega
      have hz0 : ∀ u w, Calls Try.prog 40 #[.pointer none, u] w fun e w' => e = .returned (.int .u32 0) ∧ w = w' := OfN_any
      clear hlt
      rcases hcase with r1 | ⟨r1, r2⟩
      all_goals
        go_wp2_with fail
        refine (OfN_any _ _).mono ?_
        rintro e w3 ⟨rfl, rfl⟩
        go_wp2_with fail
        refine (MoreN_any _ _ _).mono ?_
        rintro e w3 ⟨rfl, rfl⟩
        go_wp2_with fail
        refine (SealN_any _ _).mono ?_
        rintro e w3 ⟨rfl, rfl⟩
        go_wp2_with fail
        refine (FitsN_any _ _).mono ?_
        rintro e w3 ⟨rfl, rfl⟩
        go_wp2_with fail
        refine (MadeN_any _).mono ?_
        rintro e w3 ⟨rfl, rfl⟩
        go_wp2_with fail
        refine (AtN_any _ _).mono ?_
        rintro e w3 ⟨rfl, rfl⟩
        go_wp2_with fail
        refine (awake2_any _).mono ?_
        rintro e w6 ⟨rfl, hk6⟩
        go_wp2
        go_ret
        exact ⟨rfl, ((HK.out.alloc _).trans hk6 (fun _ _ h => h.elim)).mono (fun i hi h => by have h2 : w.heap.size ≤ i := h; omega)⟩
end Go.Proofs.Ytnkkbajlmpccmaa
