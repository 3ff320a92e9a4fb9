/-
  The walks of CrcSeals and CrcBursts.
-/
import Derived.Test.YtpcacndbagiajaaCrcT
import Derived.OpenShut
namespace Go.Proofs.Ytpcacndbagiajaa
open Go.RowKit

theorem Kept.one_new {w w1 w2 : World} {g : Nat} (h : Kept NoB w w1) (h2 : Kept (One g) w1 w2) (hg : w.heap.size ≤ g) : Kept NoB w w2 :=
  h.trans h2 (fun i hi h3 => by have e : i = g := h3; omega)

set_option maxRecDepth 100000 in
theorem CrcBursts_any (v : Value) (l0 : List Int) (bit p : Nat) (w : World) (h : BSl w (fun k => k < w.heap.size) v l0) (hbit : bit < 65536) (hp : p < 4294967296) :
    Calls Try.prog 5 #[v, .int .u16 bit, .int .u32 p] w fun e w' => e = .returned (.bool true) ∧ Kept NoB w w' := by
  have HV := Lib.hid h
  obtain ⟨va, vcap, rfl, _⟩ := h
  go_enter Try.func5, Try.ntmps5
  go_wp2_with fail
  refine (Cut_any _ l0 300 _ _ HV.out (by omega)).mono ?_
  rintro e w1 ⟨c, rfl, hc, rfl⟩
  obtain ⟨l, hl⟩ : ∃ m, m = l0.take 300 := ⟨_, rfl⟩
  have hl300 : l.length ≤ 300 := by rw [hl, List.length_take]; omega
  rw [← hl] at hc
  have HC := Lib.hid hc
  obtain ⟨ca, cc, rfl, _⟩ := hc
  clear HV hl
  go_wp2_with fail
  refine (CNew_any _).mono ?_
  rintro e w1 ⟨rfl, ht1, hk1⟩
  have HT1 := Lib.hid ht1
  have HK1 := Lib.hid hk1
  have HC1 := Lib.hid (HC.out.kept hk1 (fun _ _ h => h))
  clear ht1 hk1
  go_wp2_with fail
  refine (Seal_any w.heap.size false _ l (fun k => k < w.heap.size) _ HT1.out HC1.out (by omega) (by omega)).mono ?_
  rintro e w2 ⟨v2, rfl, hv2, ht2, hk2⟩
  have HT2 := Lib.hid ht2
  have HK2 := Lib.hid (HK1.out.one_new hk2 (Nat.le_refl _))
  obtain ⟨s, hs⟩ : ∃ s, s = l ++ le4 (more 0 l) := ⟨_, rfl⟩
  have hsl : s.length = l.length + 4 := by rw [hs, List.length_append]; rfl
  have hsf : fitsB s = true := by rw [hs]; exact sealed_fits l
  have hsz1 := HT1.out.lt
  rw [← hs] at hv2
  have HV2 := Lib.hid hv2
  have HS := Lib.hid hs
  have HSL := Lib.hid hsl
  have HSF := Lib.hid hsf
  obtain ⟨sa, sc, rfl⟩ := own_form hv2.2.1
  have hsl1 : (s.length : Int) ≤ (l.length : Int) + 4 := by omega
  have hsl2 : (l.length : Int) + 4 ≤ (s.length : Int) := by omega
  have hne : ((s.length : Int) != (l.length : Int) + 4) = false := by simp [hsl]
  clear hv2 hs hsl hsf ht2 hk2
  have hmod : ((bit : Int) % (8 * (s.length : Int))) = ((bit % (8 * s.length) : Nat) : Int) := by rw [Int.natCast_emod, Int.natCast_mul]; rfl
  obtain ⟨b, hb⟩ : ∃ b, b = bit % (8 * s.length) := ⟨_, rfl⟩
  rw [← hb] at hmod
  have hblt : b < 8 * s.length := by rw [hb]; exact Nat.mod_lt _ (by omega)
  clear hb
  go_wp2_with fail
  refine (CTurn_any _ s b p _ _ HV2.out.bsl (by omega) hblt hp).mono ?_
  rintro e w3 ⟨v3, rfl, hv3, hk3⟩
  have HBU := Lib.hid (burst s HV2.out.1 b p HSF.out)
  obtain ⟨x, hx⟩ : ∃ x, x = turn s b p 32 := ⟨_, rfl⟩
  have hxl : x.length ≤ s.length := by rw [hx, turn_len]; exact Nat.le_refl _
  rw [← hx] at hv3 HBU
  have HV3 := Lib.hid hv3
  have HV23 := Lib.hid (HV2.out.bsl.kept hk3 (fun _ _ h => h))
  have HT3 := Lib.hid (HT2.out.kept hk3 (fun h => h))
  have HK3 := Lib.hid (HK2.out.trans hk3 (fun _ _ h => h.elim))
  have hsz2 := HT2.out.lt
  obtain ⟨xa, xc, rfl⟩ := own_form hv3.2.1
  obtain ⟨y, hy⟩ : ∃ y, y = decide (x = s) := ⟨_, rfl⟩
  have HY := Lib.hid hy
  clear hv3 hx hy hk3
  go_wp2_with fail
  refine (Fits_any w.heap.size true _ x _ _ HT3.out HV3.out.bsl (by omega) (by omega)).mono ?_
  rintro e w4 ⟨rfl, ht4, hk4⟩
  rw [HBU.out, ← HY.out]
  have hF4 : ∀ k, w2.heap.size ≤ k → ¬ One w.heap.size k := fun k h1 h2 => by have e : k = w.heap.size := h2; omega
  have hF5 : ∀ k, w1.heap.size ≤ k → ¬ One w.heap.size k := fun k h1 h2 => by have e : k = w.heap.size := h2; omega
  have HV4 := Lib.hid (HV3.out.bsl.kept hk4 hF4)
  have HV24 := Lib.hid (HV23.out.kept hk4 hF5)
  have HK4 := Lib.hid (HK3.out.one_new hk4 (Nat.le_refl _))
  clear ht4 hk4 hF4 hF5
  go_wp2_with fail
  refine (Same_any _ _ x s _ _ _ HV4.out HV24.out).mono ?_
  rintro e w5 ⟨rfl, hk5⟩
  rw [← HY.out]
  go_wp2_with fail
  refine (awake2_any _).mono ?_
  rintro e w6 ⟨rfl, hk6⟩
  go_wp2
  go_ret
  exact ⟨rfl, (HK4.out.trans hk5 (fun _ _ h => h)).trans hk6 (fun _ _ h => h)⟩

theorem CrcBursts_u (v : Value) (l0 : List Int) (bit p : Int) (w : World) (h : BSl w (fun k => k < w.heap.size) v l0) (hbit : (Lit.int .u16 bit).wf = true) (hp : (Lit.int .u32 p).wf = true) :
    Calls Try.prog 5 #[v, .int .u16 bit, .int .u32 p] w fun e w' => e = .returned (.bool true) ∧ Kept NoB w w' := by
  obtain ⟨a, rfl⟩ := Int.eq_ofNat_of_zero_le (show 0 ≤ bit from (bounds_u16 hbit).1)
  obtain ⟨b, rfl⟩ := Int.eq_ofNat_of_zero_le (show 0 ≤ p from (bounds_u32 hp).1)
  exact CrcBursts_any v l0 a b w h (by have := (bounds_u16 hbit).2; omega) (by have := (bounds_u32 hp).2; omega)

set_option maxRecDepth 100000 in
theorem CrcSeals_any (v : Value) (l0 : List Int) (bit : Int) (p : Nat) (w : World) (h : BSl w (fun k => k < w.heap.size) v l0) (hbm : bit ≤ 9223372036854775807) (hp : p < 4294967296) :
    Calls Try.prog 4 #[v, .int .i64 bit, .int .u32 p] w fun e w' => e = .returned (.bool true) ∧ Kept NoB w w' := by
  have HV := Lib.hid h
  obtain ⟨va, vcap, rfl, _⟩ := h
  go_enter Try.func4, Try.ntmps4
  go_wp2_with fail
  refine (Cut_any _ l0 300 _ _ HV.out (by omega)).mono ?_
  rintro e w1 ⟨c, rfl, hc, rfl⟩
  obtain ⟨l, hl⟩ : ∃ m, m = l0.take 300 := ⟨_, rfl⟩
  have hl300 : l.length ≤ 300 := by rw [hl, List.length_take]; omega
  rw [← hl] at hc
  have HC := Lib.hid hc
  obtain ⟨ca, cc, rfl, _⟩ := hc
  clear HV hl
  go_wp2_with fail
  refine (Seal_any w.heap.size false _ l (fun k => k < w.heap.size) _ (TabAt.fresh w _ (by kernel_rfl)) (HC.out.kept ((Kept.refl NoB _).alloc _) (fun _ _ h => h)) (by omega) (by omega)).mono ?_
  rintro e w2 ⟨v2, rfl, hv2, ht2, hk2⟩
  have HT2 := Lib.hid ht2
  have HK2 := Lib.hid (((Kept.refl NoB w).alloc _).one_new hk2 (Nat.le_refl _))
  have HC2 := Lib.hid (HC.out.kept HK2.out (fun _ _ h => h))
  obtain ⟨s, hs⟩ : ∃ s, s = l ++ le4 (more 0 l) := ⟨_, rfl⟩
  have hsl : s.length ≤ 1000 := by rw [hs, List.length_append]; show _ + 4 ≤ _; omega
  have hsf : fitsB s = true := by rw [hs]; exact sealed_fits l
  have HV2 := Lib.hid hv2
  have HS := Lib.hid hs
  have HSF := Lib.hid hsf
  rw [← hs] at HV2
  obtain ⟨sa, sc, hv2e⟩ := own_form hv2.2.1
  rw [← hs] at hv2e
  subst hv2e
  clear hv2 hs hsf ht2 hk2
  go_wp2_with fail
  refine (RSeal_any _ l _ _ HC2.out (by omega)).mono ?_
  rintro e w3 ⟨v3, rfl, hv3, hk3⟩
  rw [← HS.out] at hv3
  have HV3 := Lib.hid hv3
  have HV23 := Lib.hid (HV2.out.kept hk3 (fun _ _ h => h))
  have HT3 := Lib.hid (HT2.out.kept hk3 (fun h => h))
  have HC3 := Lib.hid (HC2.out.kept hk3 (fun _ _ h => h))
  have HK3 := Lib.hid (HK2.out.trans hk3 (fun _ _ h => h))
  clear hv3 hk3
  go_wp2_with fail
  refine (Same_any _ _ s s _ _ _ HV23.out.bsl HV3.out.bsl).mono ?_
  rintro e w4 ⟨rfl, hk4⟩
  rw [decide_eq_true (rfl : s = s)]
  have HT4 := Lib.hid (HT3.out.kept hk4 (fun h => h))
  have HC4 := Lib.hid (HC3.out.kept hk4 (fun _ _ h => h))
  have HV4 := Lib.hid (HV23.out.kept hk4 (fun _ _ h => h))
  have HK4 := Lib.hid (HK3.out.trans hk4 (fun _ _ h => h))
  clear hk4
  go_wp2_with fail
  refine (Fits_any w.heap.size true _ s _ _ HT4.out HV4.out.bsl (fun h => by have h2 : (w.alloc _).heap.size ≤ w.heap.size := h; simp at h2; omega) (by omega)).mono ?_
  rintro e w5 ⟨rfl, ht5, hk5⟩
  rw [HSF.out]
  have HT5 := Lib.hid ht5
  have HC5 := Lib.hid (HC4.out.kept hk5 (fun k h1 h2 => by have e : k = w.heap.size := h2; omega))
  have HK5 := Lib.hid (HK4.out.one_new hk5 (Nat.le_refl _))
  clear ht5 hk5
  go_wp2_with fail
  refine (Fits_any w.heap.size true _ l _ _ HT5.out HC5.out (by omega) (by omega)).mono ?_
  rintro e w6 ⟨rfl, ht6, hk6⟩
  obtain ⟨y, hy⟩ : ∃ y, y = fitsB l := ⟨_, rfl⟩
  have HY := Lib.hid hy
  rw [← HY.out]
  have HC6 := Lib.hid (HC5.out.kept hk6 (fun k h1 h2 => by have e : k = w.heap.size := h2; omega))
  have HK6 := Lib.hid (HK5.out.one_new hk6 (Nat.le_refl _))
  clear hy ht6 hk6
  go_wp2_with fail
  refine (RFits_any _ l _ _ HC6.out (by omega)).mono ?_
  rintro e w7 ⟨rfl, hk7⟩
  rw [← HY.out]
  have HC7 := Lib.hid (HC6.out.kept hk7 (fun _ _ h => h))
  have HK7 := Lib.hid (HK6.out.trans hk7 (fun _ _ h => h))
  clear hk7
  go_wp2_with fail
  refine (CTurn_Z _ l bit p _ _ HC7.out (by omega) hp hbm).mono ?_
  rintro e w8 ⟨v8, rfl, hv8, hk8⟩
  have HV8 := Lib.hid hv8
  have HC8 := Lib.hid (HC7.out.kept hk8 (fun _ _ h => h))
  have HK8 := Lib.hid (HK7.out.trans hk8 (fun _ _ h => h))
  clear hv8 hk8
  go_wp2_with fail
  refine (RTurn_Z _ l bit p _ _ HC8.out (by omega) hp).mono ?_
  rintro e w9 ⟨v9, rfl, hv9, hk9⟩
  have HV9 := Lib.hid hv9
  have HV89 := Lib.hid (HV8.out.kept hk9 (fun _ _ h => h))
  have HK9 := Lib.hid (HK8.out.trans hk9 (fun _ _ h => h))
  clear hv9 hk9
  go_wp2_with fail
  refine (Same_any _ _ _ _ _ _ _ HV89.out.bsl HV9.out.bsl).mono ?_
  rintro e w10 ⟨rfl, hk10⟩
  rw [decide_eq_true (rfl : turnZ l bit p = turnZ l bit p)]
  go_wp2_with fail
  refine (awake2_any _).mono ?_
  rintro e w11 ⟨rfl, hk11⟩
  go_wp2
  go_ret
  exact ⟨rfl, (HK9.out.trans hk10 (fun _ _ h => h)).trans hk11 (fun _ _ h => h)⟩
theorem CrcSeals_u (v : Value) (l0 : List Int) (bit p : Int) (w : World) (h : BSl w (fun k => k < w.heap.size) v l0) (hbit : (Lit.int .i64 bit).wf = true) (hp : (Lit.int .u32 p).wf = true) :
    Calls Try.prog 4 #[v, .int .i64 bit, .int .u32 p] w fun e w' => e = .returned (.bool true) ∧ Kept NoB w w' := by
  obtain ⟨b, rfl⟩ := Int.eq_ofNat_of_zero_le (show 0 ≤ p from (bounds_u32 hp).1)
  exact CrcSeals_any v l0 bit b w h (bounds_i64 hbit).2 (by have := (bounds_u32 hp).2; omega)
end Go.Proofs.Ytpcacndbagiajaa
