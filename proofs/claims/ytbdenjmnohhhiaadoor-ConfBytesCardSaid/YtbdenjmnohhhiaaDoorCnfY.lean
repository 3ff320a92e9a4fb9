/-
  Package conf: Can of anything.
-/
import Derived.Test.YtbdenjmnohhhiaaDoorCnfX
namespace Go.Proofs.YtbdenjmnohhhiaaDoor
open Go.RowKit
set_option linter.unusedVariables false

abbrev cmdv (k ch ep nd : Int) : Value := .agg #[.int .i64 k, .int .i64 ch, .int .u64 ep, .int .i64 nd]
set_option maxRecDepth 100000 in
set_option maxHeartbeats 2000000 in
theorem Can_any (v : Value) (l : List Cf) (e0 k ch ep nd : Int) (F : Nat → Prop) (w : World) (h : CfsAt w F v l) (hx : Chk k ch ep nd e0) (hep : 0 ≤ ep) :
    Calls Tryd.prog 37 #[v, cmdv k ch ep nd] w (IntE (canC l e0 k ch ep nd) w) := by
  obtain ⟨a, cap, rfl, _⟩ := id h
  have hl : l.length ≤ 9223372036854775807 := by have := h.len; unfold maxLen at this; omega
  have HX : Hid (∀ w, Calls Tryd.prog 56 #[.agg #[.int .i64 k, .int .i64 ch, .int .u64 ep, .int .i64 nd]] w fun e w' => e = .returned (.int .i64 e0) ∧ Kept NoB w w') :=
    Lib.hid (fun w => (Check_any k ch ep nd w hep).mono (by rintro e w' ⟨y, hy, rfl, hk⟩; exact ⟨by rw [hy.one hx], hk⟩))
  have HB := Lib.hid (heap_alloc_new w (.cells #[.int .i64 k, .int .i64 ch, .int .u64 ep, .int .i64 nd] 56))
  have HK := Lib.hid ((Kept.refl NoB w).alloc (.cells #[.int .i64 k, .int .i64 ch, .int .u64 ep, .int .i64 nd] 56))
  by_cases hA : AllC l
  rotate_left
  · have HE : Hid (canC l e0 k ch ep nd = 1) := Lib.hid (by unfold canC; rw [if_pos hA])
    have HN : Hid (∀ w', Kept NoB w w' → _) := Lib.hid (fun w' (hk : Kept NoB w w') => All_no _ l F w' (h.kept hk (fun _ _ _ h => h)) hA)
    clear hA h hx
    go_enter Tryd.func37, Tryd.ntmps37
    go_wp2_with fail
    refine (HN.out _ HK.out).mono ?_
    rintro e w1 ⟨rfl, hk⟩
    have HK1 := Lib.hid (HK.out.trans hk (fun _ _ h => h))
    clear hk
    go_wp2
    go_ret
    exact ⟨(by rw [HE.out] <;> rfl), HK1.out⟩
  have HN : Hid (∀ w', Kept NoB w w' → _) := Lib.hid (fun w' (hk : Kept NoB w w') => All_yes _ l F w' (h.kept hk (fun _ _ _ h => h)) hA)
  by_cases h0 : e0 = 0
  rotate_left
  · have HE : Hid (canC l e0 k ch ep nd = e0) := Lib.hid (by unfold canC; rw [if_neg (fun x => x hA), if_pos h0])
    have h0b : ((e0 : Int) != 0) = true := by simpa using h0
    clear hA h hx h0
    go_enter Tryd.func37, Tryd.ntmps37
    go_wp2_with fail
    refine (HN.out _ HK.out).mono ?_
    rintro e w1 ⟨rfl, hk⟩
    have HK1 := Lib.hid (HK.out.trans hk (fun _ _ h => h))
    obtain ⟨c0, c1, c2, c3⟩ := cells4c (hk.heap (fun h => h) HB.out)
    clear hk
    go_wp2_with fail
    refine (HX.out _).mono ?_
    rintro e w2 ⟨rfl, hk⟩
    have HK2 := Lib.hid (HK1.out.trans hk (fun _ _ h => h))
    clear hk c0 c1 c2 c3
    go_wp2
    go_ret
    exact ⟨(by rw [HE.out] <;> rfl), HK2.out⟩
  subst h0
  have hV := Chk.ok.1 hx
  unfold Vld at hV
  by_cases hk0 : k = 0
  · subst hk0
    have HE : Hid (canC l 0 0 ch ep nd = 0) := Lib.hid (by unfold canC; rw [if_neg (fun x => x hA), if_neg (by decide), if_pos rfl])
    clear hA h hx hV
    go_enter Tryd.func37, Tryd.ntmps37
    go_wp2_with fail
    refine (HN.out _ HK.out).mono ?_
    rintro e w1 ⟨rfl, hk⟩
    have HK1 := Lib.hid (HK.out.trans hk (fun _ _ h => h))
    have HB1 := Lib.hid (hk.heap (fun h => h) HB.out)
    obtain ⟨c0, c1, c2, c3⟩ := cells4c HB1.out
    clear hk
    go_wp2_with fail
    refine (HX.out _).mono ?_
    rintro e w2 ⟨rfl, hk⟩
    have HK2 := Lib.hid (HK1.out.trans hk (fun _ _ h => h))
    have d0 := (cells4c (hk.heap (fun h => h) HB1.out)).1
    clear hk c0 c1 c2 c3
    go_wp2
    go_ret
    exact ⟨(by rw [HE.out] <;> rfl), HK2.out⟩
  obtain ⟨hk1, hk4, hch0, hch3, hep1, hnd1, hnd2⟩ : 1 ≤ k ∧ k ≤ 4 ∧ 0 ≤ ch ∧ ch ≤ 3 ∧ 1 ≤ ep ∧ 1 ≤ nd ∧ nd ≤ 24 := by
    rcases hV with ⟨h, _⟩ | h
    · exact absurd h hk0
    · exact h
  have hkb : ((k : Int) == 0) = false := by simpa using hk0
  by_cases hlc : (l.length : Int) ≤ ch
  · have HE : Hid (canC l 0 k ch ep nd = 7) := Lib.hid (by unfold canC; rw [if_neg (fun x => x hA), if_neg (by decide), if_neg hk0, if_pos hlc])
    have hge : decide ((l.length : Int) ≤ ch) = true := decide_eq_true hlc
    clear hA h hx hV hk0 hlc
    go_enter Tryd.func37, Tryd.ntmps37
    go_wp2_with fail
    refine (HN.out _ HK.out).mono ?_
    rintro e w1 ⟨rfl, hk⟩
    have HK1 := Lib.hid (HK.out.trans hk (fun _ _ h => h))
    have HB1 := Lib.hid (hk.heap (fun h => h) HB.out)
    obtain ⟨c0, c1, c2, c3⟩ := cells4c HB1.out
    clear hk
    go_wp2_with fail
    refine (HX.out _).mono ?_
    rintro e w2 ⟨rfl, hk⟩
    have HK2 := Lib.hid (HK1.out.trans hk (fun _ _ h => h))
    obtain ⟨d0, d1, _, _⟩ := cells4c (hk.heap (fun h => h) HB1.out)
    clear hk c0 c1 c2 c3
    go_wp2
    go_ret
    exact ⟨(by rw [HE.out] <;> rfl), HK2.out⟩
  obtain ⟨j, rfl⟩ := Int.eq_ofNat_of_zero_le hch0
  have hj : j < l.length := by omega
  have ejn : ((j : Int)).toNat = j := by omega
  by_cases hee : ep = (nthC l j).ep
  · have HE : canC l 0 k j ep nd = endE (canK l (nthC l j) k nd) ep := by
      unfold canC endE
      rw [if_neg (fun x => x hA), if_neg (by decide), if_neg hk0, if_neg hlc, ejn, if_neg (fun x => x hee), ← hee]
    rw [HE]
    rcases (by omega : k = 1 ∨ k = 2 ∨ k = 3 ∨ k = 4) with rfl | rfl | rfl | rfl
    · exact Can_1 _ l j ep nd F w h hA hx hep hj hee
    · exact Can_2 _ l j ep nd F w h hA hx hep hj hee
    · exact Can_3 _ l j ep nd F w h hA hx hep hj hee
    · exact Can_4 _ l j ep nd F w h hA hx hep hj hee
  · have HE : Hid (canC l 0 k j ep nd = 10) := Lib.hid (by unfold canC; rw [if_neg (fun x => x hA), if_neg (by decide), if_neg hk0, if_neg hlc, ejn, if_pos hee])
    obtain ⟨b, o, rfl, _, _, u, e0, e1, e2, e3, e4, hns, hbd⟩ := h.at_ hj
    obtain ⟨ua, uc, rfl, _⟩ := id hns
    obtain ⟨c, hc⟩ : ∃ c, c = nthC l j := ⟨_, rfl⟩
    rw [← hc] at e0 e1 e2 e3 e4 hee
    obtain ⟨cch, cep, ns, fr, jn⟩ := c
    simp only at e0 e1 e2 e3 e4 hee
    have heb : ((ep : Int) != (cep : Int)) = true := by simpa using hee
    have hk1' : (j : Int) < (l.length : Int) := by omega
    have hge : decide ((l.length : Int) ≤ (j : Int)) = false := decide_eq_false (by omega)
    have E := Lib.hid (And.intro e0 (And.intro e1 (And.intro e2 (And.intro e3 e4))))
    clear hA h hx hV hk0 hlc hee hc hns hbd e0 e1 e2 e3 e4
    go_enter Tryd.func37, Tryd.ntmps37
    go_wp2_with fail
    refine (HN.out _ HK.out).mono ?_
    rintro e w1 ⟨rfl, hk⟩
    have HK1 := Lib.hid (HK.out.trans hk (fun _ _ h => h))
    have HB1 := Lib.hid (hk.heap (fun h => h) HB.out)
    obtain ⟨c0, c1, c2, c3⟩ := cells4c HB1.out
    clear hk
    go_wp2_with fail
    refine (HX.out _).mono ?_
    rintro e w2 ⟨rfl, hk⟩
    have HK2 := Lib.hid (HK1.out.trans hk (fun _ _ h => h))
    have HB2 := Lib.hid (hk.heap (fun h => h) HB1.out)
    clear hk c0 c1 c2 c3
    obtain ⟨c0, c1, c2, c3⟩ := cells4c HB2.out
    obtain ⟨g0, g1, g2, g3, g4⟩ := E.out
    have e0 := HK2.out.cell (p := ⟨b, o + j * 5, none⟩) (fun h => h) g0
    have e1 := HK2.out.cell (p := ⟨b, o + j * 5 + 1, none⟩) (fun h => h) g1
    have e2 := HK2.out.cell (p := ⟨b, o + j * 5 + 2, none⟩) (fun h => h) g2
    have e3 := HK2.out.cell (p := ⟨b, o + j * 5 + 3, none⟩) (fun h => h) g3
    have e4 := HK2.out.cell (p := ⟨b, o + j * 5 + 4, none⟩) (fun h => h) g4
    have hlt2 := heap_lt HB2.out
    clear g0 g1 g2 g3 g4
    go_wp2
    go_ret
    exact ⟨(by rw [HE.out] <;> rfl), HK2.out.alloc _⟩
end Go.Proofs.YtbdenjmnohhhiaaDoor
