/-
  The walk of CrcSums.
-/
import Derived.Test.YtnkkbajlmpccmaaCrcO
import Derived.Test.YtnkkbajlmpccmaaRef
import Derived.OpenShut
namespace Go.Proofs.Ytnkkbajlmpccmaa
open Go.RowKit

theorem catL_one (l : List Int) : catL (fun _ => l) 1 = l := by simp [catL]

set_option maxRecDepth 100000 in
theorem CrcSums_any (v : Value) (l : List Int) (sum : Nat) (i : Int) (w : World) (h : BSl w (fun k => k < w.heap.size) v l) (hs : sum < 4294967296) :
    Calls Try.prog 8 #[v, .int .u32 sum, .int .i64 i] w fun e w' => e = .returned (.bool true) ∧ Kept NoB w w' := by
  have HV := Lib.hid h
  obtain ⟨n0, hn0⟩ : ∃ n : Nat, n = w.heap.size := ⟨_, rfl⟩
  clear h
  go_enter Try.func8, Try.ntmps8
  go_wp2_with fail
  refine (Cut_any _ l 300 _ _ HV.out (by omega)).mono ?_
  rintro e w1 ⟨c, rfl, hc, rfl⟩
  have HC := Lib.hid hc
  obtain ⟨l2, hl2⟩ : ∃ m, m = l.take 300 := ⟨_, rfl⟩
  rw [← hl2] at hc HC
  obtain ⟨ca, cc, rfl, _⟩ := hc
  clear HV hl2
  go_wp2_with fail
  refine (CNew_any _).mono ?_
  rintro e w1 ⟨rfl, ht1, hk1⟩
  have HT1 := Lib.hid ht1
  have HK1 := Lib.hid hk1
  have HC1 := Lib.hid (HC.out.kept hk1 (fun _ _ h => h))
  have hlt := ht1.lt
  have hsz := hk1.size
  clear ht1 hk1
  go_wp2_with fail
  refine (COf_any w.heap.size false _ 1 (fun _ => l2) (fun k => k < w.heap.size ∨ k = w1.heap.size) _ (HT1.out.kept ((Kept.refl NoB _).alloc _) (fun h => h)) (PAt.one HC1.out _) (by omega)).mono ?_
  rintro e w2 ⟨rfl, ht2, hk2⟩
  rw [catL_one]
  have hk2' : Kept (One w.heap.size) w1 w2 := ((Kept.refl _ _).alloc _).trans hk2 (fun _ _ h => h)
  have hFG : ∀ k, k < w.heap.size → ¬ One w.heap.size k := fun k hk h => by have e : k = w.heap.size := h; omega
  have HT2 := Lib.hid ht2
  have HK2 := Lib.hid hk2'
  have HC2 := Lib.hid (HC1.out.kept hk2' hFG)
  have HFG := Lib.hid hFG
  obtain ⟨q, hq⟩ : ∃ q, q = more 0 l2 := ⟨_, rfl⟩
  rw [← hq]
  have HQ := Lib.hid hq
  clear ht2 hk2 hk2' hFG hq
  go_wp2_with fail
  refine (ROf_any _ l2 _ _ HC2.out).mono ?_
  rintro e w3 ⟨rfl, rfl⟩
  rw [← HQ.out]
  go_wp2_with fail
  refine (Slow_any _ l2 _ _ HC2.out).mono ?_
  rintro e w3 ⟨rfl, rfl⟩
  rw [← HQ.out]
  go_wp2_with fail
  refine (ROf_any _ l2 _ _ HC2.out).mono ?_
  rintro e w3 ⟨rfl, rfl⟩
  rw [← HQ.out]
  go_wp2_with fail
  refine (CMore_any w.heap.size true sum _ l2 (fun k => k < w.heap.size) _ HT2.out hs HC2.out (by omega)).mono ?_
  rintro e w3 ⟨rfl, ht3, hk3⟩
  have HT3 := Lib.hid ht3
  have HK3 := Lib.hid hk3
  have HC3 := Lib.hid (HC2.out.kept hk3 HFG.out)
  obtain ⟨r, hr⟩ : ∃ r, r = more sum l2 := ⟨_, rfl⟩
  rw [← hr]
  have HR := Lib.hid hr
  clear ht3 hk3 hr
  go_wp2_with fail
  refine (RMore_any sum _ l2 _ _ hs HC3.out).mono ?_
  rintro e w4 ⟨rfl, rfl⟩
  rw [← HR.out]
  go_wp2_with fail
  refine (CAt_any w.heap.size true i _ HT3.out).mono ?_
  rintro e w4 ⟨rfl, ht4, hk4⟩
  have HK4 := Lib.hid hk4
  clear ht4 hk4
  obtain ⟨u, hu⟩ : ∃ u : Int, u = (if 0 ≤ i ∧ i ≤ 255 then (tab i.toNat : Int) else 0) := ⟨_, rfl⟩
  rw [← hu]
  have HU := Lib.hid hu
  clear hu
  go_wp2_with fail
  refine (RAtT_any i _).mono ?_
  rintro e w5 ⟨rfl, hk5⟩
  rw [← HU.out]
  have HK5 := Lib.hid hk5
  clear hk5
  go_wp2_with fail
  refine (awake2_any _).mono ?_
  rintro e w6 ⟨rfl, hk6⟩
  have HK6 := Lib.hid hk6
  clear hk6
  go_wp2
  go_ret
  have hf : ∀ k, k < w.heap.size → One w.heap.size k → NoB k := fun k hk h => by have e : k = w.heap.size := h; omega
  exact ⟨rfl, ((((HK1.out.trans HK2.out hf).trans HK3.out hf).trans HK4.out hf).trans HK5.out (fun _ _ h => h)).trans HK6.out (fun _ _ h => h)⟩
theorem CrcSums_u (v : Value) (l : List Int) (sum i : Int) (w : World) (h : BSl w (fun k => k < w.heap.size) v l) (hs : (Lit.int .u32 sum).wf = true) :
    Calls Try.prog 8 #[v, .int .u32 sum, .int .i64 i] w fun e w' => e = .returned (.bool true) ∧ Kept NoB w w' := by
  have hb := bounds_u32 hs
  obtain ⟨s, rfl⟩ := Int.eq_ofNat_of_zero_le hb.1
  exact CrcSums_any v l s i w h (by omega)
end Go.Proofs.Ytnkkbajlmpccmaa
