/-
  Layer 29: Add of the chapter where it fails.
-/
import Derived.Test.YtokafgleejcbgaaDoorDirAG
namespace Go.Proofs.YtokafgleejcbgaaDoor
open Go.RowKit
set_option linter.unusedVariables false

set_option maxRecDepth 100000 in
set_option maxHeartbeats 1000000 in
theorem rAdd29_bad (v : Value) (l : List En) (n : List UInt8) (m : Int) (F : Nat → Prop) (w : World) (h : ESl w F v l) (hkeys : ∀ j, j < l.length → (eth l j).1.length ≤ 1000000) (hx : n.length ≤ 1000000) (hbad : (addE (n, m) l).1 ≠ 0) :
    Calls Tryd.prog 8 #[v, .agg #[.string ⟨n.toArray⟩, .int .i64 m]] w (GetE29 (addE (n, m) l).1 [] w) := by
  have HC := Lib.hid (fun w (h : ESl w F v l) => rCheck29_any v l F w h hkeys)
  have HN := Lib.hid (fun w => rName_l n w hx)
  have HFD := Lib.hid (fun w (h : ESl w F v l) => rFind29_any v l n F w h)
  obtain ⟨a, cap, rfl, hmax⟩ := h.form
  unfold maxLen at hmax
  have hk0 := (Kept.refl NoB w).alloc (.cells #[.string ⟨n.toArray⟩, .int .i64 m] 24)
  have HK0 := Lib.hid hk0
  have HB0 := Lib.hid (heap_alloc_new w (.cells #[.string ⟨n.toArray⟩, .int .i64 m] 24))
  obtain ⟨c0, c1⟩ := cell2_29 HB0.out
  have HP0 := Lib.hid (h.no hk0)
  obtain ⟨R, hR⟩ : ∃ R, R = (addE (n, m) l).1 := ⟨_, rfl⟩
  rw [← hR] at hbad ⊢
  unfold addE at hR
  have hone : oneE (n, m) = if ¬ nmOk n then 18 else if m < 1 ∨ 65535 < m then 4 else 0 := rfl
  obtain ⟨sn, hsn⟩ : ∃ s : ByteArray, s = ⟨n.toArray⟩ := ⟨_, rfl⟩
  rw [← hsn] at HN HFD HK0 HB0 c0 c1 HP0 ⊢
  clear h hkeys hx hk0 hsn
  by_cases h1 : chkE l ≠ 0
  · rw [if_pos h1] at hR
    obtain ⟨er, her⟩ : ∃ q, q = chkE l := ⟨_, rfl⟩
    rw [← her] at hR HC h1
    have g1 : (er != 0) = true := bne_iff_ne.2 h1
    subst hR
    clear her h1 hbad hone
    go_enter Tryd.func8, Tryd.ntmps8
    go_wp2_with (first
      | (go_at_call 24; refine (HC.out _ HP0.out).mono ?_; rintro e w1 ⟨rfl, hk⟩; have HK1 := Lib.hid (HK0.out.trans hk (fun _ _ h => h)); have HP1 := Lib.hid (HP0.out.no hk); have HB1 := Lib.hid (hk.heap (fun h => h) HB0.out); clear hk c0 c1; obtain ⟨c0, c1⟩ := cell2_29 HB1.out))
    exact bodyPost_ret (v := .tuple #[.slice none 0 0, .int .i64 R]) (by simp [results, Tryd.results8, go_sem]) rfl (GetE29.nil rfl HK1.out)
  · rw [if_neg h1] at hR
    rw [Decidable.not_not.1 h1] at HC
    by_cases hnm : nmOk n
    · rw [decide_eq_true hnm] at HN
      rw [if_neg (fun q => q hnm)] at hone
      by_cases h2 : m < 1
      · rw [if_pos (.inl h2)] at hone
        have hone : oneE (n, m) = 4 := hone
        rw [if_pos (by rw [hone]; decide), hone] at hR
        have d1 : decide (m < 1) = true := decide_eq_true h2
        subst hR
        clear h1 hbad hone hnm h2
        go_enter Tryd.func8, Tryd.ntmps8
        go_wp2_with (first
          | (go_at_call 24; refine (HC.out _ HP0.out).mono ?_; rintro e w1 ⟨rfl, hk⟩; have HK1 := Lib.hid (HK0.out.trans hk (fun _ _ h => h)); have HP1 := Lib.hid (HP0.out.no hk); have HB1 := Lib.hid (hk.heap (fun h => h) HB0.out); clear hk c0 c1; obtain ⟨c0, c1⟩ := cell2_29 HB1.out)
          | (go_at_call 25; refine (HN.out _).mono ?_; rintro e w2 ⟨rfl, hk⟩; have HK2 := Lib.hid (HK1.out.trans hk (fun _ _ h => h)); have HP2 := Lib.hid (HP1.out.no hk); have HB2 := Lib.hid (hk.heap (fun h => h) HB1.out); clear hk c0 c1; obtain ⟨c0, c1⟩ := cell2_29 HB2.out))
        exact bodyPost_ret (v := .tuple #[.slice none 0 0, .int .i64 4]) (by simp [results, Tryd.results8, go_sem]) rfl (GetE29.nil rfl HK2.out)
      · by_cases h2' : 65535 < m
        · rw [if_pos (.inr h2')] at hone
          have hone : oneE (n, m) = 4 := hone
          rw [if_pos (by rw [hone]; decide), hone] at hR
          have d1 : decide (m < 1) = false := decide_eq_false h2
          have d1' : (1 : Int) ≤ m := by omega
          have d2 : decide ((65535 : Int) < m) = true := decide_eq_true h2'
          subst hR
          clear h1 hbad hone hnm h2
          go_enter Tryd.func8, Tryd.ntmps8
          go_wp2_with (first
            | (go_at_call 24; refine (HC.out _ HP0.out).mono ?_; rintro e w1 ⟨rfl, hk⟩; have HK1 := Lib.hid (HK0.out.trans hk (fun _ _ h => h)); have HP1 := Lib.hid (HP0.out.no hk); have HB1 := Lib.hid (hk.heap (fun h => h) HB0.out); clear hk c0 c1; obtain ⟨c0, c1⟩ := cell2_29 HB1.out)
            | (go_at_call 25; refine (HN.out _).mono ?_; rintro e w2 ⟨rfl, hk⟩; have HK2 := Lib.hid (HK1.out.trans hk (fun _ _ h => h)); have HP2 := Lib.hid (HP1.out.no hk); have HB2 := Lib.hid (hk.heap (fun h => h) HB1.out); clear hk c0 c1; obtain ⟨c0, c1⟩ := cell2_29 HB2.out))
          exact bodyPost_ret (v := .tuple #[.slice none 0 0, .int .i64 4]) (by simp [results, Tryd.results8, go_sem]) rfl (GetE29.nil rfl HK2.out)
        · rw [if_neg (fun q => q.elim h2 h2')] at hone
          have hone : oneE (n, m) = 0 := hone
          rw [if_neg (fun q => q hone)] at hR
          have d1 : decide (m < 1) = false := decide_eq_false h2
          have d1' : (1 : Int) ≤ m := by omega
          have d2 : decide ((65535 : Int) < m) = false := decide_eq_false h2'
          have d2' : m ≤ 65535 := by omega
          by_cases h3 : l.any (nmIs n) = true
          · rw [if_pos h3] at hR
            have hf : fndE n l = ((eth l (l.findIdx (nmIs n))).2, true) := by unfold fndE; rw [if_pos h3]
            rw [hf] at HFD
            obtain ⟨z, hz⟩ : ∃ z, z = (eth l (l.findIdx (nmIs n))).2 := ⟨_, rfl⟩
            simp only [← hz] at HFD
            subst hR
            clear h1 hbad hone hnm h2 h2' h3 hf hz
            go_enter Tryd.func8, Tryd.ntmps8
            go_wp2_with (first
              | (go_at_call 24; refine (HC.out _ HP0.out).mono ?_; rintro e w1 ⟨rfl, hk⟩; have HK1 := Lib.hid (HK0.out.trans hk (fun _ _ h => h)); have HP1 := Lib.hid (HP0.out.no hk); have HB1 := Lib.hid (hk.heap (fun h => h) HB0.out); clear hk c0 c1; obtain ⟨c0, c1⟩ := cell2_29 HB1.out)
              | (go_at_call 25; refine (HN.out _).mono ?_; rintro e w2 ⟨rfl, hk⟩; have HK2 := Lib.hid (HK1.out.trans hk (fun _ _ h => h)); have HP2 := Lib.hid (HP1.out.no hk); have HB2 := Lib.hid (hk.heap (fun h => h) HB1.out); clear hk c0 c1; obtain ⟨c0, c1⟩ := cell2_29 HB2.out)
              | (go_at_call 12; refine (HFD.out _ HP2.out).mono ?_; rintro e w3 ⟨rfl, hk⟩; have HK3 := Lib.hid (HK2.out.trans hk (fun _ _ h => h)); have HP3 := Lib.hid (HP2.out.no hk); have HB3 := Lib.hid (hk.heap (fun h => h) HB2.out); clear hk c0 c1; obtain ⟨c0, c1⟩ := cell2_29 HB3.out))
            exact bodyPost_ret (v := .tuple #[.slice none 0 0, .int .i64 8]) (by simp [results, Tryd.results8, go_sem]) rfl (GetE29.nil rfl HK3.out)
          · rw [if_neg h3] at hR
            have hf : fndE n l = (0, false) := by unfold fndE; rw [if_neg h3]
            rw [hf] at HFD
            simp only at HFD
            by_cases h4 : l.length = 32
            · rw [if_pos h4] at hR
              have g1 : ((l.length : Int) == 32) = true := by simpa using (show (l.length : Int) = 32 by omega)
              subst hR
              clear h1 hbad hone hnm h2 h2' h3 hf h4
              go_enter Tryd.func8, Tryd.ntmps8
              go_wp2_with (first
                | (go_at_call 24; refine (HC.out _ HP0.out).mono ?_; rintro e w1 ⟨rfl, hk⟩; have HK1 := Lib.hid (HK0.out.trans hk (fun _ _ h => h)); have HP1 := Lib.hid (HP0.out.no hk); have HB1 := Lib.hid (hk.heap (fun h => h) HB0.out); clear hk c0 c1; obtain ⟨c0, c1⟩ := cell2_29 HB1.out)
                | (go_at_call 25; refine (HN.out _).mono ?_; rintro e w2 ⟨rfl, hk⟩; have HK2 := Lib.hid (HK1.out.trans hk (fun _ _ h => h)); have HP2 := Lib.hid (HP1.out.no hk); have HB2 := Lib.hid (hk.heap (fun h => h) HB1.out); clear hk c0 c1; obtain ⟨c0, c1⟩ := cell2_29 HB2.out)
                | (go_at_call 12; refine (HFD.out _ HP2.out).mono ?_; rintro e w3 ⟨rfl, hk⟩; have HK3 := Lib.hid (HK2.out.trans hk (fun _ _ h => h)); have HP3 := Lib.hid (HP2.out.no hk); have HB3 := Lib.hid (hk.heap (fun h => h) HB2.out); clear hk c0 c1; obtain ⟨c0, c1⟩ := cell2_29 HB3.out))
              exact bodyPost_ret (v := .tuple #[.slice none 0 0, .int .i64 17]) (by simp [results, Tryd.results8, go_sem]) rfl (GetE29.nil rfl HK3.out)
            · rw [if_neg h4] at hR
              exact absurd hR hbad
    · rw [decide_eq_false hnm] at HN
      rw [if_pos hnm] at hone
      rw [if_pos (by rw [hone]; decide), hone] at hR
      subst hR
      clear h1 hbad hone hnm
      go_enter Tryd.func8, Tryd.ntmps8
      go_wp2_with (first
        | (go_at_call 24; refine (HC.out _ HP0.out).mono ?_; rintro e w1 ⟨rfl, hk⟩; have HK1 := Lib.hid (HK0.out.trans hk (fun _ _ h => h)); have HP1 := Lib.hid (HP0.out.no hk); have HB1 := Lib.hid (hk.heap (fun h => h) HB0.out); clear hk c0 c1; obtain ⟨c0, c1⟩ := cell2_29 HB1.out)
        | (go_at_call 25; refine (HN.out _).mono ?_; rintro e w2 ⟨rfl, hk⟩; have HK2 := Lib.hid (HK1.out.trans hk (fun _ _ h => h)); have HP2 := Lib.hid (HP1.out.no hk); have HB2 := Lib.hid (hk.heap (fun h => h) HB1.out); clear hk c0 c1; obtain ⟨c0, c1⟩ := cell2_29 HB2.out))
      exact bodyPost_ret (v := .tuple #[.slice none 0 0, .int .i64 18]) (by simp [results, Tryd.results8, go_sem]) rfl (GetE29.nil rfl HK2.out)
end Go.Proofs.YtokafgleejcbgaaDoor
