/-
  Layer 29: Add of the package.
-/
import Derived.Test.YtokafgleejcbgaaDoorDirAE
namespace Go.Proofs.YtokafgleejcbgaaDoor
open Go.RowKit
set_option linter.unusedVariables false

set_option maxRecDepth 100000 in
set_option maxHeartbeats 1000000 in
theorem vAdd29_bad (v : Value) (l : List En) (n : List UInt8) (m : Int) (F : Nat → Prop) (w : World) (h : ESl w F v l) (hkeys : ∀ j, j < l.length → (eth l j).1.length ≤ 1000000) (hx : n.length ≤ 1000000) (hbad : (addE (n, m) l).1 ≠ 0) :
    Calls Tryd.prog 6 #[v, .agg #[.string ⟨n.toArray⟩, .int .i64 m]] w (GetE29 (addE (n, m) l).1 [] w) := by
  have HC := Lib.hid (fun w (h : ESl w F v l) => vCheck29_any v l F w h hkeys)
  have HO := Lib.hid (fun w => checkOne_any n m w hx)
  have HPL := Lib.hid (fun w (h : ESl w F v l) => place_any v l n F w h)
  obtain ⟨a, cap, rfl, hmax⟩ := h.form
  unfold maxLen at hmax
  have hk0 := (Kept.refl NoB w).alloc (.cells #[.string ⟨n.toArray⟩, .int .i64 m] 32)
  have HK0 := Lib.hid hk0
  have HB0 := Lib.hid (heap_alloc_new w (.cells #[.string ⟨n.toArray⟩, .int .i64 m] 32))
  obtain ⟨c0, c1⟩ := cell2_29 HB0.out
  have HP0 := Lib.hid (h.no hk0)
  obtain ⟨R, hR⟩ : ∃ R, R = (addE (n, m) l).1 := ⟨_, rfl⟩
  rw [← hR] at hbad ⊢
  unfold addE at hR
  obtain ⟨sn, hsn⟩ : ∃ s : ByteArray, s = ⟨n.toArray⟩ := ⟨_, rfl⟩
  rw [← hsn] at HO HPL HK0 HB0 c0 c1 HP0 ⊢
  clear h hkeys hx hk0 hsn
  by_cases h1 : chkE l ≠ 0
  · rw [if_pos h1] at hR
    obtain ⟨er, her⟩ : ∃ q, q = chkE l := ⟨_, rfl⟩
    rw [← her] at hR HC h1
    have g1 : (er != 0) = true := bne_iff_ne.2 h1
    subst hR
    clear her h1 hbad
    go_enter Tryd.func6, Tryd.ntmps6
    go_wp2_with (first
      | (go_at_call 18; refine (HC.out _ HP0.out).mono ?_; rintro e w1 ⟨rfl, hk⟩; have HK1 := Lib.hid (HK0.out.trans hk (fun _ _ h => h)); have HP1 := Lib.hid (HP0.out.no hk); have HB1 := Lib.hid (hk.heap (fun h => h) HB0.out); clear hk c0 c1; obtain ⟨c0, c1⟩ := cell2_29 HB1.out))
    exact bodyPost_ret (v := .tuple #[.slice none 0 0, .int .i64 R]) (by simp [results, Tryd.results6, go_sem]) rfl (GetE29.nil rfl HK1.out)
  · rw [if_neg h1] at hR
    rw [Decidable.not_not.1 h1] at HC
    by_cases h2 : oneE (n, m) ≠ 0
    · rw [if_pos h2] at hR
      obtain ⟨er, her⟩ : ∃ q, q = oneE (n, m) := ⟨_, rfl⟩
      rw [← her] at hR HO h2
      have g1 : (er != 0) = true := bne_iff_ne.2 h2
      subst hR
      clear her h1 h2 hbad
      go_enter Tryd.func6, Tryd.ntmps6
      go_wp2_with (first
        | (go_at_call 18; refine (HC.out _ HP0.out).mono ?_; rintro e w1 ⟨rfl, hk⟩; have HK1 := Lib.hid (HK0.out.trans hk (fun _ _ h => h)); have HP1 := Lib.hid (HP0.out.no hk); have HB1 := Lib.hid (hk.heap (fun h => h) HB0.out); clear hk c0 c1; obtain ⟨c0, c1⟩ := cell2_29 HB1.out)
        | (go_at_call 19; refine (HO.out _).mono ?_; rintro e w2 ⟨rfl, hk⟩; have HK2 := Lib.hid (HK1.out.trans hk (fun _ _ h => h)); have HP2 := Lib.hid (HP1.out.no hk); have HB2 := Lib.hid (hk.heap (fun h => h) HB1.out); clear hk c0 c1; obtain ⟨c0, c1⟩ := cell2_29 HB2.out))
      exact bodyPost_ret (v := .tuple #[.slice none 0 0, .int .i64 R]) (by simp [results, Tryd.results6, go_sem]) rfl (GetE29.nil rfl HK2.out)
    · rw [if_neg h2] at hR
      rw [Decidable.not_not.1 h2] at HO
      by_cases h3 : l.any (nmIs n) = true
      · rw [if_pos h3] at hR
        have hi : idxE (nmIs n) l = (l.findIdx (nmIs n) : Int) := by unfold idxE; rw [if_pos h3]
        rw [hi] at HPL
        obtain ⟨k, hk⟩ : ∃ k, k = l.findIdx (nmIs n) := ⟨_, rfl⟩
        rw [← hk] at HPL
        have g1 : (0 : Int) ≤ (k : Int) := by omega
        subst hR
        clear h1 h2 h3 hbad hi hk
        go_enter Tryd.func6, Tryd.ntmps6
        go_wp2_with (first
          | (go_at_call 18; refine (HC.out _ HP0.out).mono ?_; rintro e w1 ⟨rfl, hk⟩; have HK1 := Lib.hid (HK0.out.trans hk (fun _ _ h => h)); have HP1 := Lib.hid (HP0.out.no hk); have HB1 := Lib.hid (hk.heap (fun h => h) HB0.out); clear hk c0 c1; obtain ⟨c0, c1⟩ := cell2_29 HB1.out)
          | (go_at_call 19; refine (HO.out _).mono ?_; rintro e w2 ⟨rfl, hk⟩; have HK2 := Lib.hid (HK1.out.trans hk (fun _ _ h => h)); have HP2 := Lib.hid (HP1.out.no hk); have HB2 := Lib.hid (hk.heap (fun h => h) HB1.out); clear hk c0 c1; obtain ⟨c0, c1⟩ := cell2_29 HB2.out)
          | (go_at_call 20; refine (HPL.out _ HP2.out).mono ?_; rintro e w3 ⟨rfl, hk⟩; have HK3 := Lib.hid (HK2.out.trans hk (fun _ _ h => h)); have HP3 := Lib.hid (HP2.out.no hk); have HB3 := Lib.hid (hk.heap (fun h => h) HB2.out); clear hk c0 c1; obtain ⟨c0, c1⟩ := cell2_29 HB3.out))
        exact bodyPost_ret (v := .tuple #[.slice none 0 0, .int .i64 8]) (by simp [results, Tryd.results6, go_sem]) rfl (GetE29.nil rfl HK3.out)
      · rw [if_neg h3] at hR
        have hi : idxE (nmIs n) l = -1 := by unfold idxE; rw [if_neg h3]
        rw [hi] at HPL
        by_cases h4 : l.length = 32
        · rw [if_pos h4] at hR
          have g1 : ((l.length : Int) == 32) = true := by simpa using (show (l.length : Int) = 32 by omega)
          subst hR
          clear h1 h2 h3 hbad hi h4
          go_enter Tryd.func6, Tryd.ntmps6
          go_wp2_with (first
            | (go_at_call 18; refine (HC.out _ HP0.out).mono ?_; rintro e w1 ⟨rfl, hk⟩; have HK1 := Lib.hid (HK0.out.trans hk (fun _ _ h => h)); have HP1 := Lib.hid (HP0.out.no hk); have HB1 := Lib.hid (hk.heap (fun h => h) HB0.out); clear hk c0 c1; obtain ⟨c0, c1⟩ := cell2_29 HB1.out)
            | (go_at_call 19; refine (HO.out _).mono ?_; rintro e w2 ⟨rfl, hk⟩; have HK2 := Lib.hid (HK1.out.trans hk (fun _ _ h => h)); have HP2 := Lib.hid (HP1.out.no hk); have HB2 := Lib.hid (hk.heap (fun h => h) HB1.out); clear hk c0 c1; obtain ⟨c0, c1⟩ := cell2_29 HB2.out)
            | (go_at_call 20; refine (HPL.out _ HP2.out).mono ?_; rintro e w3 ⟨rfl, hk⟩; have HK3 := Lib.hid (HK2.out.trans hk (fun _ _ h => h)); have HP3 := Lib.hid (HP2.out.no hk); have HB3 := Lib.hid (hk.heap (fun h => h) HB2.out); clear hk c0 c1; obtain ⟨c0, c1⟩ := cell2_29 HB3.out))
          exact bodyPost_ret (v := .tuple #[.slice none 0 0, .int .i64 17]) (by simp [results, Tryd.results6, go_sem]) rfl (GetE29.nil rfl HK3.out)
        · rw [if_neg h4] at hR
          exact absurd hR hbad
end Go.Proofs.YtokafgleejcbgaaDoor
