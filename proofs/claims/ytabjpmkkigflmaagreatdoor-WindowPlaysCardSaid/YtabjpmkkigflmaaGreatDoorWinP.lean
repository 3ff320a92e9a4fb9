/-
  The chapter's window: From.
-/
import Derived.Test.YtabjpmkkigflmaaGreatDoorWinM
namespace Go.Proofs.YtabjpmkkigflmaaGreatDoor
open Go.RowKit
set_option linter.unusedVariables false
set_option linter.unusedSimpArgs false

set_option maxRecDepth 100000 in
set_option maxHeartbeats 1000000 in
theorem RFrom20_any (w : World) (v : Value) (x : Wn) (got : Nat) (most : Int) (F : Nat → Prop) (h : RwV w F v x) (hF : ∀ k, F k → k < w.heap.size) (ok : WnOk x) : Calls Tryz.prog 24 #[v, .int .u64 got, .int .i64 most] w fun e w' => ∃ v', e = .returned (.tuple #[v', .bool (inB x got)]) ∧ UsAt w' (NewOr17 F w.heap.size) v' (fromL x got most) ∧ Kept NoB w w' := by
  obtain ⟨u, rfl, hu⟩ := h
  obtain ⟨a, c, rfl⟩ := hu.form
  have HB := Lib.hid (fun w' (hk : Kept NoB w w') => RBatch_any w' (.slice a x.l.length c) x.l got most F (hu.no hk) (fun k h => Nat.lt_of_lt_of_le (hF k h) hk.size) ok.fit ok.few)
  have HFL : Hid (fromL x got most = if inB x got = true then selU (batU got most) 0 x.l else []) := Lib.hid rfl
  have HIB : Hid (inB x got = (decide (x.low ≤ got) && decide (got ≤ x.en))) := Lib.hid rfl
  obtain ⟨lo, en, dn, l⟩ := x
  simp only at HB HFL HIB ⊢
  obtain ⟨I, hI⟩ : ∃ z, z = inB ⟨lo, en, dn, l⟩ got := ⟨_, rfl⟩
  obtain ⟨L, hL⟩ : ∃ z, z = fromL ⟨lo, en, dn, l⟩ got most := ⟨_, rfl⟩
  rw [← hI] at HFL HIB ⊢
  rw [← hL] at HFL ⊢
  obtain ⟨V, hV⟩ : ∃ V, V = w.alloc (.cells #[.int .u64 lo, .int .u64 en, .int .u64 dn, .slice a l.length c] 29) := ⟨_, rfl⟩
  obtain ⟨c0, c1, c2, c3⟩ := cells4w (show V.heap[w.heap.size]? = some (.cells #[.int .u64 lo, .int .u64 en, .int .u64 dn, .slice a l.length c] 29 (0, 0)) by rw [hV]; exact heap_alloc_new w _)
  have HKV : Hid (Kept NoB w V) := Lib.hid (by rw [hV]; exact (Kept.refl _ _).alloc _)
  have HV := Lib.hid hV
  clear hV hu hI hL ok
  by_cases h1 : got < lo
  · have h1i : (got : Int) < (lo : Int) := by omega
    have hb : I = false := by rw [HIB.out, decide_eq_false (show ¬ lo ≤ got by omega)]; rfl
    subst hb
    have HLL : Hid (L = []) := Lib.hid (by rw [HFL.out]; rfl)
    clear h1
    go_enter Tryz.func24, Tryz.ntmps24
    go_wp2_with fail
    rw [← HV.out]
    go_wp2
    exact bodyPost_ret (v := .tuple #[.slice none 0 0, .bool false]) (by simp [results, Tryz.results24, go_sem]) rfl ⟨_, rfl, by rw [HLL.out]; exact UsAt.nil _ _, HKV.out⟩
  · have h1i : ¬ (got : Int) < (lo : Int) := by omega
    by_cases h2 : en < got
    · have h2i : (en : Int) < (got : Int) := by omega
      have hb : I = false := by rw [HIB.out, decide_eq_false (show ¬ got ≤ en by omega)]; simp
      subst hb
      have HLL : Hid (L = []) := Lib.hid (by rw [HFL.out]; rfl)
      clear h1 h2
      go_enter Tryz.func24, Tryz.ntmps24
      go_wp2_with fail
      rw [← HV.out]
      go_wp2
      exact bodyPost_ret (v := .tuple #[.slice none 0 0, .bool false]) (by simp [results, Tryz.results24, go_sem]) rfl ⟨_, rfl, by rw [HLL.out]; exact UsAt.nil _ _, HKV.out⟩
    · have h2i : ¬ (en : Int) < (got : Int) := by omega
      have hb : I = true := by rw [HIB.out, decide_eq_true (show lo ≤ got by omega), decide_eq_true (show got ≤ en by omega)]; rfl
      subst hb
      have HLL : Hid (L = selU (batU got most) 0 l) := Lib.hid (by rw [HFL.out]; rfl)
      clear h1 h2
      go_enter Tryz.func24, Tryz.ntmps24
      go_wp2_with fail
      rw [← HV.out]
      refine (HB.out _ HKV.out).mono ?_
      rintro e w1 ⟨v', rfl, hv, hk⟩
      have HK1 := Lib.hid (HKV.out.trans hk (fun _ _ h => h))
      have HVV := Lib.hid hv
      have hsz := HKV.out.size
      clear hv hk
      go_wp2
      exact bodyPost_ret (v := .tuple #[v', .bool true]) (by simp [results, Tryz.results24, go_sem]) rfl ⟨_, rfl, by rw [HLL.out]; exact HVV.out.mono (fun k _ h => h.imp id (fun h => by omega)), HK1.out⟩
end Go.Proofs.YtabjpmkkigflmaaGreatDoor
