/-
  Layer 28: Grow of both. Layer 28: Cut of both. Layer 28: InodeTurns. Layer 28: InodeBack.
-/
import Derived.Test.YtbacnkndllifaaaInoP
namespace Go.Proofs.Ytbacnkndllifaaa
open Go.RowKit
set_option linter.unusedVariables false

/-- What Grow tells. -/
def grE (m s : Int) (l : List Xt) (z : Int) (bs : List Int) : Int := if chk28 m s l = 0 then (if m = 0 ∨ z < s then 12 else ofE m z (blk l ++ bs)) else chk28 m s l
def grR (m s : Int) (l : List Xt) (z : Int) (bs : List Int) : Int × Int × List Xt := if chk28 m s l = 0 ∧ ¬ (m = 0 ∨ z < s) then ofR m z (blk l ++ bs) else (0, 0, [])
theorem IRes.zero {er q : Int} {w w' : World} (hq : q = er) (hk : Kept NoB w w') : IRes er 0 0 [] w (.returned (.tuple #[iv28 0 0 (.slice none 0 0), .int .i64 q])) w' := by
  subst hq; exact ⟨none, 0, rfl, XSl.nil _ _, hk⟩
theorem IRes.mk {er q m s : Int} {l : List Xt} {u : Value} {w w' : World} (hq : q = er) (h : XSl w' (fun k => w.heap.size ≤ k) u l) (hk : Kept NoB w w') : IRes er m s l w (.returned (.tuple #[iv28 m s u, .int .i64 q])) w' := by
  subst hq
  obtain ⟨a, c, rfl, _⟩ := id h
  exact ⟨a, c, rfl, h, hk⟩
set_option maxRecDepth 100000 in
set_option maxHeartbeats 20000000 in
theorem iGrow_any (m s z : Int) (u v : Value) (l : List Xt) (bs : List Int) (F G : Nat → Prop) (w : World) (h : XSl w F u l) (hv : NSl w G v bs) (hl : l.length ≤ 1000) (hbl : bs.length ≤ 500) (h0 : -9223372036854775808 ≤ s) (h1 : s ≤ 9223372036854775807) (z0 : -9223372036854775808 ≤ z) (z1 : z ≤ 9223372036854775807)
    (hb : ∀ x ∈ bs, -9223372036854775808 ≤ x ∧ x ≤ 9223372036854775807) :
    Calls Try.prog 48 #[iv28 m s u, .int .i64 z, v] w (IRes (grE m s l z bs) (grR m s l z bs).1 (grR m s l z bs).2.1 (grR m s l z bs).2.2 w) := by
  obtain ⟨a, cap, rfl, hca, hcm, _⟩ := id h
  obtain ⟨av, cv, rfl, hcv, hvm, _⟩ := id hv
  have hk0 := ((Kept.refl NoB w).alloc (.cells #[.int .i64 m, .int .i64 s, .slice a l.length cap] 47)).alloc (.cells #[.int .i64 0, .int .i64 0, .slice none 0 0] 47)
  have HK0 := Lib.hid hk0
  have HX := Lib.hid (h.no hk0)
  have HNV := Lib.hid (hv.kept hk0 (fun _ _ _ h => h))
  have hA := ((Kept.refl NoB _).alloc (.cells #[.int .i64 0, .int .i64 0, .slice none 0 0] 47)).heap (fun h => h) (heap_alloc_new w (.cells #[.int .i64 m, .int .i64 s, .slice a l.length cap] 47))
  have hB := heap_alloc_new (w.alloc (.cells #[.int .i64 m, .int .i64 s, .slice a l.length cap] 47)) (.cells #[.int .i64 0, .int .i64 0, .slice none 0 0] 47)
  rw [show (w.alloc (.cells #[.int .i64 m, .int .i64 s, .slice a l.length cap] 47)).heap.size = w.heap.size + 1 by simp] at hB
  have HA : Hid (IAt 47 ((w.alloc (.cells #[.int .i64 m, .int .i64 s, .slice a l.length cap] 47)).alloc (.cells #[.int .i64 0, .int .i64 0, .slice none 0 0] 47)) w.heap.size m s (.slice a l.length cap)) := Lib.hid hA
  have HB : Hid (IAt 47 ((w.alloc (.cells #[.int .i64 m, .int .i64 s, .slice a l.length cap] 47)).alloc (.cells #[.int .i64 0, .int .i64 0, .slice none 0 0] 47)) (w.heap.size + 1) 0 0 (.slice none 0 0)) := Lib.hid hB
  have HCK := Lib.hid (iCheck_any m s _ l _ _ (h.no hk0) h0 h1)
  obtain ⟨c0, c1, c2⟩ := HA.out.cells
  obtain ⟨er, her⟩ : ∃ er, er = chk28 m s l := ⟨_, rfl⟩
  rw [← her] at HCK
  have HER := Lib.hid her
  have HBD := Lib.hid hb
  clear hk0 hA hB her h hv hb
  by_cases he : er = 0
  · have hc0 := HER.out
    rw [he] at hc0
    obtain ⟨hm0, hm2, hs0, hs5, ⟨hve, _⟩, hl8⟩ := chk_zero hc0.symm
    have HZ0 := Lib.hid hc0
    rw [he] at HCK
    by_cases hst : m = 0 ∨ z < s
    · rw [show grR m s l z bs = (0, 0, []) by unfold grR; rw [if_neg (fun h => h.2 hst)], show grE m s l z bs = 12 by unfold grE; rw [← hc0, if_pos rfl, if_pos hst]]
      by_cases hmz : m = 0
      · have d1 : (m == 0) = true := by rw [hmz]; rfl
        clear he hst hmz hc0 hve
        go_enter Try.func48, Try.ntmps48
        go_wp2_with (go_at_call 31; refine HCK.out.mono ?_; rintro e w1 ⟨rfl, hk⟩; have HK1 := Lib.hid (HK0.out.trans hk (fun _ _ h => h)); have HB1 := Lib.hid (HB.out.no hk); clear c0 c1 c2; obtain ⟨c0, c1, c2⟩ := (HA.out.no hk).cells; obtain ⟨q0, q1, q2⟩ := HB1.out.cells; have f0 := frz3 HB1.out 0; have f1 := frz3 HB1.out 1; have f2 := frz3 HB1.out 2; clear hk)
        obtain ⟨r0, r1, r2⟩ := cells3 (set3_heap HB1.out (.int .i64 0) (.int .i64 0) (.slice none 0 0))
        exact bodyPost_ret (v := .tuple #[iv28 0 0 (.slice none 0 0), .int .i64 12]) (by simp [results, Try.results48, go_sem, r0, r1, r2]) rfl (IRes.zero rfl (HK1.out.trans (set3_kept _ _ _ _ _) (fun i hi he => absurd hi (by omega))))
      · have d1 : (m == 0) = false := by simpa using hmz
        have d2 : decide (z < s) = true := decide_eq_true (by omega)
        clear he hst hmz hc0 hve
        go_enter Try.func48, Try.ntmps48
        go_wp2_with (go_at_call 31; refine HCK.out.mono ?_; rintro e w1 ⟨rfl, hk⟩; have HK1 := Lib.hid (HK0.out.trans hk (fun _ _ h => h)); have HB1 := Lib.hid (HB.out.no hk); clear c0 c1 c2; obtain ⟨c0, c1, c2⟩ := (HA.out.no hk).cells; obtain ⟨q0, q1, q2⟩ := HB1.out.cells; have f0 := frz3 HB1.out 0; have f1 := frz3 HB1.out 1; have f2 := frz3 HB1.out 2; clear hk)
        obtain ⟨r0, r1, r2⟩ := cells3 (set3_heap HB1.out (.int .i64 0) (.int .i64 0) (.slice none 0 0))
        exact bodyPost_ret (v := .tuple #[iv28 0 0 (.slice none 0 0), .int .i64 12]) (by simp [results, Try.results48, go_sem, r0, r1, r2]) rfl (IRes.zero rfl (HK1.out.trans (set3_kept _ _ _ _ _) (fun i hi he => absurd hi (by omega))))
    · rw [show grR m s l z bs = ofR m z (blk l ++ bs) by unfold grR; rw [if_pos ⟨hc0.symm, hst⟩], show grE m s l z bs = ofE m z (blk l ++ bs) by unfold grE; rw [← hc0, if_pos rfl, if_neg hst]]
      have d1 : (m == 0) = false := by simpa using (fun h => hst (.inl h) : ¬ m = 0)
      have d2 : decide (z < s) = false := decide_eq_false (fun h => hst (.inr h))
      have hbk := blk_len l
      have hbr : ∀ x ∈ blk l ++ bs, -9223372036854775808 ≤ x ∧ x ≤ 9223372036854775807 := fun x hx => by
        rcases List.mem_append.1 hx with hx | hx
        · unfold blk at hx
          obtain ⟨e, he1, he2⟩ := List.mem_flatMap.1 hx
          have := (eblk_mem (hve e he1)).1 he2
          obtain ⟨_, _, _, _, _⟩ := hve e he1
          omega
        · exact HBD.out x hx
      have HBR := Lib.hid hbr
      have HBL := Lib.hid (fun W (hx : XSl W (fun _ => True) (.slice a l.length cap) l) => iBlocks_any m s _ l _ W hx hl)
      obtain ⟨BS, hBS⟩ : ∃ BS, BS = blk l := ⟨_, rfl⟩
      rw [← hBS] at hbk HBL HBR ⊢
      have HOF := Lib.hid (fun x W (hx : NSl W (fun _ => True) x (BS ++ bs)) => iOf_any m z x (BS ++ bs) _ W hx (by rw [List.length_append]; omega) z0 z1)
      obtain ⟨R, hR⟩ : ∃ R, R = ofR m z (BS ++ bs) := ⟨_, rfl⟩
      obtain ⟨q, hq⟩ : ∃ q, q = ofE m z (BS ++ bs) := ⟨_, rfl⟩
      rw [← hR, ← hq] at HOF ⊢
      obtain ⟨rm, rs, L⟩ := R
      simp only at HOF ⊢
      have hcl : BS.length + bs.length ≤ 100000 := by omega
      clear he hst hc0 hve hbr hBS hR hq
      go_enter Try.func48, Try.ntmps48
      go_wp2_with (go_at_call 31; refine HCK.out.mono ?_; rintro e w1 ⟨rfl, hk⟩; have HK1 := Lib.hid (HK0.out.trans hk (fun _ _ h => h)); have HB1 := Lib.hid (HB.out.no hk); have HA1 := Lib.hid (HA.out.no hk); have HX1 := Lib.hid (HX.out.any.no hk); have HNV1 := Lib.hid (HNV.out.kept hk (fun _ _ _ h => h)); clear c0 c1 c2; obtain ⟨c0, c1, c2⟩ := HA1.out.cells; clear hk)
      go_region_law (first
        | (go_simp; go_at_call 37; refine (HBL.out _ (by first | exact HX1.out | exact HX1.out.no (Kept.refl NoB w1).drew)).mono ?_; rintro e w5 ⟨a5, c5, rfl, ho5, hk5⟩; (have hk5' : Kept NoB w1 w5 := by first | exact hk5 | exact (Kept.refl NoB w1).drew.trans hk5 (fun _ _ h => h)); have HO5 := Lib.hid (ho5.low (C := w1.heap.size) (by first | exact Nat.le_refl _ | simp)); have HK5 := Lib.hid hk5'; have HNV5 := Lib.hid (HNV1.out.kept hk5' (fun _ _ _ h => h)); have hsz5 := hk5'.size; clear c0 c1 c2; obtain ⟨c0, c1, c2⟩ := (HA1.out.no hk5').cells; clear ho5 hk5 hk5')
        | (refine step_append_nsl _ (by rfl) (.tmp 29) (.tmp 30) (by rfl) w1.heap.size (.slice a5 BS.length c5) BS (by rfl) HO5.out _ (.slice av bs.length cv) bs (by rfl) HNV5.out hcl hsz5 ?_; intro a6 e6 w6 hown6 hg6 _; have HO6 := Lib.hid (hown6.nsl (F := fun _ => True) (fun _ _ => trivial)); (have hk6 : Kept NoB w1 w6 := HK5.out.grown hg6 (fun b hb => .inr (World.ownsRow.lt HO5.out b hb).1)); have HK6 := Lib.hid hk6; clear c0 c1 c2; obtain ⟨c0, c1, c2⟩ := (HA1.out.no hk6).cells; clear hown6 hg6 hk6)
        | (go_simp; go_at_call 44; refine (HOF.out _ _ HO6.out).mono ?_; rintro e w7 ⟨a7, c7, rfl, hx7, hk7⟩; have HX7 := Lib.hid hx7; have HK7 := Lib.hid (HK6.out.trans hk7 (fun _ _ h => h)); have HB7 := Lib.hid (HB1.out.no HK7.out); obtain ⟨q0, q1, q2⟩ := HB7.out.cells; have f0 := frz3 HB7.out 0; have f1 := frz3 HB7.out 1; have f2 := frz3 HB7.out 2; have hz7 := HK6.out.size; have hz1 := HK1.out.size; clear hx7 hk7))
      all_goals
        go_wp2
        obtain ⟨r0, r1, r2⟩ := cells3 (set3_heap HB7.out (.int .i64 rm) (.int .i64 rs) (.slice a7 L.length c7))
        have hg1 := heap_lt HB1.out
        exact bodyPost_ret (v := .tuple #[iv28 rm rs (.slice a7 L.length c7), .int .i64 q]) (by simp [results, Try.results48, go_sem, r0, r1, r2]) rfl (IRes.mk rfl ((HX7.out.kept (set3_kept _ _ _ _ _) (fun k _ hk he => by omega)).mono (fun k _ hk => by omega)) ((HK1.out.trans HK7.out (fun _ _ h => h)).trans (set3_kept _ _ _ _ _) (fun i hi he => absurd hi (by omega))))
  · rw [show grR m s l z bs = (0, 0, []) by unfold grR; rw [if_neg (fun h => he (HER.out.trans h.1))], show grE m s l z bs = er by unfold grE; rw [← HER.out, if_neg he]]
    have hne : (er != 0) = true := bne_iff_ne.2 he
    clear he
    go_enter Try.func48, Try.ntmps48
    go_wp2_with (go_at_call 31; refine HCK.out.mono ?_; rintro e w1 ⟨rfl, hk⟩; have HK1 := Lib.hid (HK0.out.trans hk (fun _ _ h => h)); have HB1 := Lib.hid (HB.out.no hk); obtain ⟨q0, q1, q2⟩ := HB1.out.cells; have f0 := frz3 HB1.out 0; have f1 := frz3 HB1.out 1; have f2 := frz3 HB1.out 2; clear hk)
    obtain ⟨r0, r1, r2⟩ := cells3 (set3_heap HB1.out (.int .i64 0) (.int .i64 0) (.slice none 0 0))
    exact bodyPost_ret (v := .tuple #[iv28 0 0 (.slice none 0 0), .int .i64 er]) (by simp [results, Try.results48, go_sem, r0, r1, r2]) rfl (IRes.zero rfl (HK1.out.trans (set3_kept _ _ _ _ _) (fun i hi he => absurd hi (by omega))))
set_option maxRecDepth 100000 in
set_option maxHeartbeats 20000000 in
theorem rGrow_any (m s z : Int) (u v : Value) (l : List Xt) (bs : List Int) (F G : Nat → Prop) (w : World) (h : XSl w F u l) (hv : NSl w G v bs) (hl : l.length ≤ 1000) (hbl : bs.length ≤ 500) (h0 : -9223372036854775808 ≤ s) (h1 : s ≤ 9223372036854775807) (z0 : -9223372036854775808 ≤ z) (z1 : z ≤ 9223372036854775807)
    (hb : ∀ x ∈ bs, -9223372036854775808 ≤ x ∧ x ≤ 9223372036854775807) :
    Calls Try.prog 49 #[iv28 m s u, .int .i64 z, v] w (IRes (grE m s l z bs) (grR m s l z bs).1 (grR m s l z bs).2.1 (grR m s l z bs).2.2 w) := by
  obtain ⟨a, cap, rfl, hca, hcm, _⟩ := id h
  obtain ⟨av, cv, rfl, hcv, hvm, _⟩ := id hv
  have hk0 := ((Kept.refl NoB w).alloc (.cells #[.int .i64 m, .int .i64 s, .slice a l.length cap] 43)).alloc (.cells #[.int .i64 0, .int .i64 0, .slice none 0 0] 43)
  have HK0 := Lib.hid hk0
  have HX := Lib.hid (h.no hk0)
  have HNV := Lib.hid (hv.kept hk0 (fun _ _ _ h => h))
  have hA := ((Kept.refl NoB _).alloc (.cells #[.int .i64 0, .int .i64 0, .slice none 0 0] 43)).heap (fun h => h) (heap_alloc_new w (.cells #[.int .i64 m, .int .i64 s, .slice a l.length cap] 43))
  have hB := heap_alloc_new (w.alloc (.cells #[.int .i64 m, .int .i64 s, .slice a l.length cap] 43)) (.cells #[.int .i64 0, .int .i64 0, .slice none 0 0] 43)
  rw [show (w.alloc (.cells #[.int .i64 m, .int .i64 s, .slice a l.length cap] 43)).heap.size = w.heap.size + 1 by simp] at hB
  have HA : Hid (IAt 43 ((w.alloc (.cells #[.int .i64 m, .int .i64 s, .slice a l.length cap] 43)).alloc (.cells #[.int .i64 0, .int .i64 0, .slice none 0 0] 43)) w.heap.size m s (.slice a l.length cap)) := Lib.hid hA
  have HB : Hid (IAt 43 ((w.alloc (.cells #[.int .i64 m, .int .i64 s, .slice a l.length cap] 43)).alloc (.cells #[.int .i64 0, .int .i64 0, .slice none 0 0] 43)) (w.heap.size + 1) 0 0 (.slice none 0 0)) := Lib.hid hB
  have HCK := Lib.hid (rCheck_any m s _ l _ _ (h.no hk0) hl)
  obtain ⟨c0, c1, c2⟩ := HA.out.cells
  obtain ⟨er, her⟩ : ∃ er, er = chk28 m s l := ⟨_, rfl⟩
  rw [← her] at HCK
  have HER := Lib.hid her
  have HBD := Lib.hid hb
  clear hk0 hA hB her h hv hb
  by_cases he : er = 0
  · have hc0 := HER.out
    rw [he] at hc0
    obtain ⟨hm0, hm2, hs0, hs5, ⟨hve, _⟩, hl8⟩ := chk_zero hc0.symm
    have HZ0 := Lib.hid hc0
    rw [he] at HCK
    by_cases hst : m = 0 ∨ z < s
    · rw [show grR m s l z bs = (0, 0, []) by unfold grR; rw [if_neg (fun h => h.2 hst)], show grE m s l z bs = 12 by unfold grE; rw [← hc0, if_pos rfl, if_pos hst]]
      by_cases hmz : m = 0
      · have d1 : (m == 0) = true := by rw [hmz]; rfl
        clear he hst hmz hc0 hve
        go_enter Try.func49, Try.ntmps49
        go_wp2_with (go_at_call 34; refine HCK.out.mono ?_; rintro e w1 ⟨rfl, hk⟩; have HK1 := Lib.hid (HK0.out.trans hk (fun _ _ h => h)); have HB1 := Lib.hid (HB.out.no hk); clear c0 c1 c2; obtain ⟨c0, c1, c2⟩ := (HA.out.no hk).cells; obtain ⟨q0, q1, q2⟩ := HB1.out.cells; have f0 := frz3 HB1.out 0; have f1 := frz3 HB1.out 1; have f2 := frz3 HB1.out 2; clear hk)
        obtain ⟨r0, r1, r2⟩ := cells3 (set3_heap HB1.out (.int .i64 0) (.int .i64 0) (.slice none 0 0))
        exact bodyPost_ret (v := .tuple #[iv28 0 0 (.slice none 0 0), .int .i64 12]) (by simp [results, Try.results49, go_sem, r0, r1, r2]) rfl (IRes.zero rfl (HK1.out.trans (set3_kept _ _ _ _ _) (fun i hi he => absurd hi (by omega))))
      · have d1 : (m == 0) = false := by simpa using hmz
        have d2 : decide (z < s) = true := decide_eq_true (by omega)
        clear he hst hmz hc0 hve
        go_enter Try.func49, Try.ntmps49
        go_wp2_with (go_at_call 34; refine HCK.out.mono ?_; rintro e w1 ⟨rfl, hk⟩; have HK1 := Lib.hid (HK0.out.trans hk (fun _ _ h => h)); have HB1 := Lib.hid (HB.out.no hk); clear c0 c1 c2; obtain ⟨c0, c1, c2⟩ := (HA.out.no hk).cells; obtain ⟨q0, q1, q2⟩ := HB1.out.cells; have f0 := frz3 HB1.out 0; have f1 := frz3 HB1.out 1; have f2 := frz3 HB1.out 2; clear hk)
        obtain ⟨r0, r1, r2⟩ := cells3 (set3_heap HB1.out (.int .i64 0) (.int .i64 0) (.slice none 0 0))
        exact bodyPost_ret (v := .tuple #[iv28 0 0 (.slice none 0 0), .int .i64 12]) (by simp [results, Try.results49, go_sem, r0, r1, r2]) rfl (IRes.zero rfl (HK1.out.trans (set3_kept _ _ _ _ _) (fun i hi he => absurd hi (by omega))))
    · rw [show grR m s l z bs = ofR m z (blk l ++ bs) by unfold grR; rw [if_pos ⟨hc0.symm, hst⟩], show grE m s l z bs = ofE m z (blk l ++ bs) by unfold grE; rw [← hc0, if_pos rfl, if_neg hst]]
      have d1 : (m == 0) = false := by simpa using (fun h => hst (.inl h) : ¬ m = 0)
      have d2 : decide (z < s) = false := decide_eq_false (fun h => hst (.inr h))
      have hbk := blk_len l
      have hbr : ∀ x ∈ blk l ++ bs, -9223372036854775808 ≤ x ∧ x ≤ 9223372036854775807 := fun x hx => by
        rcases List.mem_append.1 hx with hx | hx
        · unfold blk at hx
          obtain ⟨e, he1, he2⟩ := List.mem_flatMap.1 hx
          have := (eblk_mem (hve e he1)).1 he2
          obtain ⟨_, _, _, _, _⟩ := hve e he1
          omega
        · exact HBD.out x hx
      have HBR := Lib.hid hbr
      have HBL := Lib.hid (fun W (hx : XSl W (fun _ => True) (.slice a l.length cap) l) => rBlocks_any m s _ l _ W hx hl)
      obtain ⟨BS, hBS⟩ : ∃ BS, BS = blk l := ⟨_, rfl⟩
      rw [← hBS] at hbk HBL HBR ⊢
      have HOF := Lib.hid (fun x W (hx : NSl W (fun _ => True) x (BS ++ bs)) => rOf_all m z x (BS ++ bs) _ W hx (by rw [List.length_append]; omega) HBR.out)
      obtain ⟨R, hR⟩ : ∃ R, R = ofR m z (BS ++ bs) := ⟨_, rfl⟩
      obtain ⟨q, hq⟩ : ∃ q, q = ofE m z (BS ++ bs) := ⟨_, rfl⟩
      rw [← hR, ← hq] at HOF ⊢
      obtain ⟨rm, rs, L⟩ := R
      simp only at HOF ⊢
      have hcl : BS.length + bs.length ≤ 100000 := by omega
      clear he hst hc0 hve hbr hBS hR hq
      go_enter Try.func49, Try.ntmps49
      go_wp2_with (go_at_call 34; refine HCK.out.mono ?_; rintro e w1 ⟨rfl, hk⟩; have HK1 := Lib.hid (HK0.out.trans hk (fun _ _ h => h)); have HB1 := Lib.hid (HB.out.no hk); have HA1 := Lib.hid (HA.out.no hk); have HX1 := Lib.hid (HX.out.any.no hk); have HNV1 := Lib.hid (HNV.out.kept hk (fun _ _ _ h => h)); clear c0 c1 c2; obtain ⟨c0, c1, c2⟩ := HA1.out.cells; clear hk)
      go_region_law (first
        | (go_simp; go_at_call 38; refine (HBL.out _ (by first | exact HX1.out | exact HX1.out.no (Kept.refl NoB w1).drew)).mono ?_; rintro e w5 ⟨a5, c5, rfl, ho5, hk5⟩; (have hk5' : Kept NoB w1 w5 := by first | exact hk5 | exact (Kept.refl NoB w1).drew.trans hk5 (fun _ _ h => h)); have HO5 := Lib.hid (ho5.low (C := w1.heap.size) (by first | exact Nat.le_refl _ | simp)); have HK5 := Lib.hid hk5'; have HNV5 := Lib.hid (HNV1.out.kept hk5' (fun _ _ _ h => h)); have hsz5 := hk5'.size; clear c0 c1 c2; obtain ⟨c0, c1, c2⟩ := (HA1.out.no hk5').cells; clear ho5 hk5 hk5')
        | (refine step_append_nsl _ (by rfl) (.tmp 29) (.tmp 30) (by rfl) w1.heap.size (.slice a5 BS.length c5) BS (by rfl) HO5.out _ (.slice av bs.length cv) bs (by rfl) HNV5.out hcl hsz5 ?_; intro a6 e6 w6 hown6 hg6 _; have HO6 := Lib.hid (hown6.nsl (F := fun _ => True) (fun _ _ => trivial)); (have hk6 : Kept NoB w1 w6 := HK5.out.grown hg6 (fun b hb => .inr (World.ownsRow.lt HO5.out b hb).1)); have HK6 := Lib.hid hk6; clear c0 c1 c2; obtain ⟨c0, c1, c2⟩ := (HA1.out.no hk6).cells; clear hown6 hg6 hk6)
        | (go_simp; go_at_call 45; refine (HOF.out _ _ HO6.out).mono ?_; rintro e w7 ⟨a7, c7, rfl, hx7, hk7⟩; have HX7 := Lib.hid hx7; have HK7 := Lib.hid (HK6.out.trans hk7 (fun _ _ h => h)); have HB7 := Lib.hid (HB1.out.no HK7.out); obtain ⟨q0, q1, q2⟩ := HB7.out.cells; have f0 := frz3 HB7.out 0; have f1 := frz3 HB7.out 1; have f2 := frz3 HB7.out 2; have hz7 := HK6.out.size; have hz1 := HK1.out.size; clear hx7 hk7))
      all_goals
        go_wp2
        obtain ⟨r0, r1, r2⟩ := cells3 (set3_heap HB7.out (.int .i64 rm) (.int .i64 rs) (.slice a7 L.length c7))
        have hg1 := heap_lt HB1.out
        exact bodyPost_ret (v := .tuple #[iv28 rm rs (.slice a7 L.length c7), .int .i64 q]) (by simp [results, Try.results49, go_sem, r0, r1, r2]) rfl (IRes.mk rfl ((HX7.out.kept (set3_kept _ _ _ _ _) (fun k _ hk he => by omega)).mono (fun k _ hk => by omega)) ((HK1.out.trans HK7.out (fun _ _ h => h)).trans (set3_kept _ _ _ _ _) (fun i hi he => absurd hi (by omega))))
  · rw [show grR m s l z bs = (0, 0, []) by unfold grR; rw [if_neg (fun h => he (HER.out.trans h.1))], show grE m s l z bs = er by unfold grE; rw [← HER.out, if_neg he]]
    have hne : (er != 0) = true := bne_iff_ne.2 he
    clear he
    go_enter Try.func49, Try.ntmps49
    go_wp2_with (go_at_call 34; refine HCK.out.mono ?_; rintro e w1 ⟨rfl, hk⟩; have HK1 := Lib.hid (HK0.out.trans hk (fun _ _ h => h)); have HB1 := Lib.hid (HB.out.no hk); obtain ⟨q0, q1, q2⟩ := HB1.out.cells; have f0 := frz3 HB1.out 0; have f1 := frz3 HB1.out 1; have f2 := frz3 HB1.out 2; clear hk)
    obtain ⟨r0, r1, r2⟩ := cells3 (set3_heap HB1.out (.int .i64 0) (.int .i64 0) (.slice none 0 0))
    exact bodyPost_ret (v := .tuple #[iv28 0 0 (.slice none 0 0), .int .i64 er]) (by simp [results, Try.results49, go_sem, r0, r1, r2]) rfl (IRes.zero rfl (HK1.out.trans (set3_kept _ _ _ _ _) (fun i hi he => absurd hi (by omega))))
end Go.Proofs.Ytbacnkndllifaaa
namespace Go.Proofs.Ytbacnkndllifaaa
open Go.RowKit
set_option linter.unusedVariables false

/-- What Cut tells. -/
def ctE (m s : Int) (l : List Xt) (z : Int) : Int := if chk28 m s l = 0 then (if m = 0 then 12 else if z < 0 ∨ s < z then 20 else ofE m z ((blk l).take (need28 z).toNat)) else chk28 m s l
def ctOk (m s : Int) (l : List Xt) (z : Int) : Prop := chk28 m s l = 0 ∧ m ≠ 0 ∧ ¬ (z < 0 ∨ s < z)
instance (m s : Int) (l : List Xt) (z : Int) : Decidable (ctOk m s l z) := by unfold ctOk; exact inferInstance
def ctR (m s : Int) (l : List Xt) (z : Int) : Int × Int × List Xt := if ctOk m s l z then ofR m z ((blk l).take (need28 z).toNat) else (0, 0, [])
def ctB (m s : Int) (l : List Xt) (z : Int) : List Int := if ctOk m s l z then (blk l).drop (need28 z).toNat else []
theorem ctOk.err {m s : Int} {l : List Xt} {z : Int} (h : ctOk m s l z) : ctE m s l z = ofE m z ((blk l).take (need28 z).toNat) := by
  unfold ctE; rw [if_pos h.1, if_neg h.2.1, if_neg h.2.2]
/-- An inode, numbers, and an error. -/
def IRes3 (er m s : Int) (l : List Xt) (D : List Int) (w : World) (e : Ending) (w' : World) : Prop := ∃ a c b d, e = .returned (.tuple #[iv28 m s (.slice a l.length c), .slice b D.length d, .int .i64 er]) ∧ XSl w' (fun k => w.heap.size ≤ k) (.slice a l.length c) l ∧ NSl w' (fun k => w.heap.size ≤ k) (.slice b D.length d) D ∧ Kept NoB w w'
theorem IRes3.zero {er q : Int} {w w' : World} (hq : q = er) (hk : Kept NoB w w') : IRes3 er 0 0 [] [] w (.returned (.tuple #[iv28 0 0 (.slice none 0 0), .slice none 0 0, .int .i64 q])) w' := by
  subst hq; exact ⟨none, 0, none, 0, rfl, XSl.nil _ _, NSl.nil _ _, hk⟩
theorem IRes3.mk {er q m s : Int} {l : List Xt} {D : List Int} {u v : Value} {w w' : World} (hq : q = er) (h : XSl w' (fun k => w.heap.size ≤ k) u l) (hv : NSl w' (fun k => w.heap.size ≤ k) v D) (hk : Kept NoB w w') : IRes3 er m s l D w (.returned (.tuple #[iv28 m s u, v, .int .i64 q])) w' := by
  subst hq
  obtain ⟨a, c, rfl, _⟩ := id h
  obtain ⟨b, d, rfl, _⟩ := id hv
  exact ⟨a, c, b, d, rfl, h, hv, hk⟩
theorem nsl_drop {F : Nat → Prop} {w : World} {a : Option Addr} {n cap : Nat} {l : List Int} (h : NSl w F (.slice a n cap) l) {k : Nat} (hk : k ≤ l.length) : NSl w F (.slice (if cap = k then a else a.map (·.add k)) (n - k) (cap - k)) (l.drop k) := by
  obtain ⟨a', cap', h1, h2, h3, h4, h5⟩ := h
  injection h1 with h1 h6 h7
  subst h1 h6 h7
  refine ⟨_, cap - k, by rw [List.length_drop], by rw [List.length_drop]; omega, by omega, fun h => ?_, fun hl => ?_⟩
  · by_cases e : cap = k
    · omega
    · rw [if_neg e] at h
      have := h4 (by cases a with | none => rfl | some x => cases h)
      omega
  · rw [List.length_drop] at hl
    obtain ⟨b, o, rfl, hF, hb, hc⟩ := h5 (by omega)
    rw [if_neg (by omega)]
    refine ⟨b, o + k, ?_, hF, hb, fun j hj => ?_⟩
    · by_cases hn : k = 0
      · subst hn; rfl
      · simp [Addr.add, hn]
    · rw [List.length_drop] at hj
      rw [Nat.add_assoc, hc (k + j) (by omega)]
      simp
theorem need_mono {z s : Int} (h : z ≤ s) : need28 z ≤ need28 s := by unfold need28; split <;> split <;> omega
theorem need_nn (z : Int) : 0 ≤ need28 z := by unfold need28; split <;> omega
set_option maxRecDepth 100000 in
set_option maxHeartbeats 20000000 in
theorem iCut_any (m s z : Int) (u : Value) (l : List Xt) (F : Nat → Prop) (w : World) (h : XSl w F u l) (hl : l.length ≤ 1000) (h0 : -9223372036854775808 ≤ s) (h1 : s ≤ 9223372036854775807) (z0 : -9223372036854775808 ≤ z) (z1 : z ≤ 9223372036854775807) :
    Calls Try.prog 50 #[iv28 m s u, .int .i64 z] w (IRes3 (ctE m s l z) (ctR m s l z).1 (ctR m s l z).2.1 (ctR m s l z).2.2 (ctB m s l z) w) := by
  obtain ⟨a, cap, rfl, hca, hcm, _⟩ := id h
  have hk0 := ((Kept.refl NoB w).alloc (.cells #[.int .i64 m, .int .i64 s, .slice a l.length cap] 47)).alloc (.cells #[.int .i64 0, .int .i64 0, .slice none 0 0] 47)
  have HK0 := Lib.hid hk0
  have HX := Lib.hid (h.no hk0)
  have hA := ((Kept.refl NoB _).alloc (.cells #[.int .i64 0, .int .i64 0, .slice none 0 0] 47)).heap (fun h => h) (heap_alloc_new w (.cells #[.int .i64 m, .int .i64 s, .slice a l.length cap] 47))
  have hB := heap_alloc_new (w.alloc (.cells #[.int .i64 m, .int .i64 s, .slice a l.length cap] 47)) (.cells #[.int .i64 0, .int .i64 0, .slice none 0 0] 47)
  rw [show (w.alloc (.cells #[.int .i64 m, .int .i64 s, .slice a l.length cap] 47)).heap.size = w.heap.size + 1 by simp] at hB
  have HA : Hid (IAt 47 ((w.alloc (.cells #[.int .i64 m, .int .i64 s, .slice a l.length cap] 47)).alloc (.cells #[.int .i64 0, .int .i64 0, .slice none 0 0] 47)) w.heap.size m s (.slice a l.length cap)) := Lib.hid hA
  have HB : Hid (IAt 47 ((w.alloc (.cells #[.int .i64 m, .int .i64 s, .slice a l.length cap] 47)).alloc (.cells #[.int .i64 0, .int .i64 0, .slice none 0 0] 47)) (w.heap.size + 1) 0 0 (.slice none 0 0)) := Lib.hid hB
  have HCK := Lib.hid (iCheck_any m s _ l _ _ (h.no hk0) h0 h1)
  obtain ⟨c0, c1, c2⟩ := HA.out.cells
  obtain ⟨er, her⟩ : ∃ er, er = chk28 m s l := ⟨_, rfl⟩
  rw [← her] at HCK
  have HER := Lib.hid her
  clear hk0 hA hB her h
  have HNO : Hid (¬ ctOk m s l z → ctR m s l z = (0, 0, []) ∧ ctB m s l z = []) := Lib.hid (fun h => ⟨by unfold ctR; rw [if_neg h], by unfold ctB; rw [if_neg h]⟩)
  by_cases he : er = 0
  · have hc0 := HER.out
    rw [he] at hc0
    obtain ⟨hm0, hm2, hs0, hs5, ⟨hve, _, _, hnd⟩, hl8⟩ := chk_zero hc0.symm
    rw [he] at HCK
    by_cases hmz : m = 0
    · obtain ⟨n1, n2⟩ := HNO.out (fun h => h.2.1 hmz)
      rw [n1, n2, show ctE m s l z = 12 by unfold ctE; rw [← hc0, if_pos rfl, if_pos hmz]]
      have d1 : (m == 0) = true := by rw [hmz]; rfl
      clear he hmz hc0 hve hnd n1 n2
      go_enter Try.func50, Try.ntmps50
      go_wp2_with (go_at_call 31; refine HCK.out.mono ?_; rintro e w1 ⟨rfl, hk⟩; have HK1 := Lib.hid (HK0.out.trans hk (fun _ _ h => h)); have HB1 := Lib.hid (HB.out.no hk); clear c0 c1 c2; obtain ⟨c0, c1, c2⟩ := (HA.out.no hk).cells; obtain ⟨q0, q1, q2⟩ := HB1.out.cells; have f0 := frz3 HB1.out 0; have f1 := frz3 HB1.out 1; have f2 := frz3 HB1.out 2; clear hk)
      obtain ⟨r0, r1, r2⟩ := cells3 (set3_heap HB1.out (.int .i64 0) (.int .i64 0) (.slice none 0 0))
      exact bodyPost_ret (v := .tuple #[iv28 0 0 (.slice none 0 0), .slice none 0 0, .int .i64 12]) (by simp [results, Try.results50, go_sem, r0, r1, r2]) rfl (IRes3.zero rfl (HK1.out.trans (set3_kept _ _ _ _ _) (fun i hi he => absurd hi (by omega))))
    · have d1 : (m == 0) = false := by simpa using hmz
      by_cases hz : z < 0 ∨ s < z
      · obtain ⟨n1, n2⟩ := HNO.out (fun h => h.2.2 hz)
        rw [n1, n2, show ctE m s l z = 20 by unfold ctE; rw [← hc0, if_pos rfl, if_neg hmz, if_pos hz]]
        by_cases hz0 : z < 0
        · have d2 : decide (z < 0) = true := decide_eq_true hz0
          clear he hmz hc0 hve hnd n1 n2 hz hz0
          go_enter Try.func50, Try.ntmps50
          go_wp2_with (go_at_call 31; refine HCK.out.mono ?_; rintro e w1 ⟨rfl, hk⟩; have HK1 := Lib.hid (HK0.out.trans hk (fun _ _ h => h)); have HB1 := Lib.hid (HB.out.no hk); clear c0 c1 c2; obtain ⟨c0, c1, c2⟩ := (HA.out.no hk).cells; obtain ⟨q0, q1, q2⟩ := HB1.out.cells; have f0 := frz3 HB1.out 0; have f1 := frz3 HB1.out 1; have f2 := frz3 HB1.out 2; clear hk)
          obtain ⟨r0, r1, r2⟩ := cells3 (set3_heap HB1.out (.int .i64 0) (.int .i64 0) (.slice none 0 0))
          exact bodyPost_ret (v := .tuple #[iv28 0 0 (.slice none 0 0), .slice none 0 0, .int .i64 20]) (by simp [results, Try.results50, go_sem, r0, r1, r2]) rfl (IRes3.zero rfl (HK1.out.trans (set3_kept _ _ _ _ _) (fun i hi he => absurd hi (by omega))))
        · have d2 : decide (z < 0) = false := decide_eq_false hz0
          have d3 : decide (s < z) = true := decide_eq_true (by omega)
          clear he hmz hc0 hve hnd n1 n2 hz hz0
          go_enter Try.func50, Try.ntmps50
          go_wp2_with (go_at_call 31; refine HCK.out.mono ?_; rintro e w1 ⟨rfl, hk⟩; have HK1 := Lib.hid (HK0.out.trans hk (fun _ _ h => h)); have HB1 := Lib.hid (HB.out.no hk); clear c0 c1 c2; obtain ⟨c0, c1, c2⟩ := (HA.out.no hk).cells; obtain ⟨q0, q1, q2⟩ := HB1.out.cells; have f0 := frz3 HB1.out 0; have f1 := frz3 HB1.out 1; have f2 := frz3 HB1.out 2; clear hk)
          obtain ⟨r0, r1, r2⟩ := cells3 (set3_heap HB1.out (.int .i64 0) (.int .i64 0) (.slice none 0 0))
          exact bodyPost_ret (v := .tuple #[iv28 0 0 (.slice none 0 0), .slice none 0 0, .int .i64 20]) (by simp [results, Try.results50, go_sem, r0, r1, r2]) rfl (IRes3.zero rfl (HK1.out.trans (set3_kept _ _ _ _ _) (fun i hi he => absurd hi (by omega))))
      · have hok : ctOk m s l z := ⟨hc0.symm, hmz, hz⟩
        have d2 : decide (z < 0) = false := decide_eq_false (fun h => hz (.inl h))
        have d3 : decide (s < z) = false := decide_eq_false (fun h => hz (.inr h))
        rw [hok.err, show ctR m s l z = ofR m z ((blk l).take (need28 z).toNat) by unfold ctR; rw [if_pos hok], show ctB m s l z = (blk l).drop (need28 z).toNat by unfold ctB; rw [if_pos hok]]
        have hmon := need_mono (show z ≤ s by omega)
        obtain ⟨n, hn⟩ := Int.eq_ofNat_of_zero_le (need_nn z)
        rw [hn, Int.toNat_natCast]
        rw [hn] at hmon
        have hnl : n ≤ (blk l).length := by omega
        have HND := Lib.hid (fun W => iNeed_any z W z0 z1)
        rw [hn] at HND
        have hbk := blk_len l
        have HBL := Lib.hid (fun W (hx : XSl W (fun _ => True) (.slice a l.length cap) l) => iBlocks_any m s _ l _ W hx hl)
        have hbr : ∀ x ∈ (blk l).take n, -9223372036854775808 ≤ x ∧ x ≤ 9223372036854775807 := fun x hx => by
          have hx := List.mem_of_mem_take hx
          unfold blk at hx
          obtain ⟨e, he1, he2⟩ := List.mem_flatMap.1 hx
          have := (eblk_mem (hve e he1)).1 he2
          obtain ⟨_, _, _, _, _⟩ := hve e he1
          omega
        have HBR := Lib.hid hbr
        obtain ⟨BS, hBS⟩ : ∃ BS, BS = blk l := ⟨_, rfl⟩
        rw [← hBS] at hbk HBL HBR hnl ⊢
        have hbt : (BS.take n).length = n := by rw [List.length_take]; omega
        have HOF := Lib.hid (fun x W (hx : NSl W (fun _ => True) x (BS.take n)) => iOf_any m z x (BS.take n) _ W hx (by omega) z0 z1)
        obtain ⟨R, hR⟩ : ∃ R, R = ofR m z (BS.take n) := ⟨_, rfl⟩
        obtain ⟨q, hq⟩ : ∃ q, q = ofE m z (BS.take n) := ⟨_, rfl⟩
        rw [← hR, ← hq] at HOF ⊢
        obtain ⟨rm, rs, L⟩ := R
        simp only at HOF ⊢
        have hb0 : BS.length ≤ 9223372036854775807 := by omega
        have hn1 : (n : Int) ≤ (BS.length : Int) := by omega
        have HDL : Hid ((BS.drop n).length = BS.length - n) := Lib.hid (by rw [List.length_drop])
        clear he hmz hz hc0 hve hnd hbr hBS hR hq hn hmon hok hbt
        go_enter Try.func50, Try.ntmps50
        go_wp2_with (first
          | (go_at_call 31; refine HCK.out.mono ?_; rintro e w1 ⟨rfl, hk⟩; have HK1 := Lib.hid (HK0.out.trans hk (fun _ _ h => h)); have HB1 := Lib.hid (HB.out.no hk); have HA1 := Lib.hid (HA.out.no hk); have HX1 := Lib.hid (HX.out.any.no hk); clear c0 c1 c2; obtain ⟨c0, c1, c2⟩ := HA1.out.cells; clear hk)
          | (go_at_call 37; refine (HBL.out _ HX1.out).mono ?_; rintro e w5 ⟨a5, c5, rfl, ho5, hk5⟩; have HNS := Lib.hid ho5.nslB; have HK5 := Lib.hid hk5; have HA5 := Lib.hid (HA1.out.no hk5); have HB5 := Lib.hid (HB1.out.no hk5); have hc5 := ho5.nslB.len; clear c0 c1 c2; obtain ⟨c0, c1, c2⟩ := HA5.out.cells; clear ho5 hk5)
          | (go_at_call 46; refine (HND.out _).mono ?_; rintro e w4 ⟨rfl, rfl⟩))
        have hnc : (n : Int) ≤ (c5 : Int) := by omega
        have hlc : (BS.length : Int) ≤ (c5 : Int) := by omega
        have hcm5 : (c5 : Int) ≤ 9223372036854775807 := by have := hc5.2.2; unfold maxLen at this; omega
        have hn0 : (0 : Int) ≤ (n : Int) := by omega
        have hz5 := HK5.out.size
        have hzk1 := HK1.out.size
        have hg1 := heap_lt HB1.out
        have HT5 : Hid (NSl w5 (fun _ => True) (.slice a5 n c5) (BS.take n)) := Lib.hid ((nsl_take HNS.out hnl).mono (fun _ _ _ => trivial))
        clear hc5
        have c0a : (w5.alloc (.cells #[.int .i64 0, .int .i64 0, .slice none 0 0] 47)).cell? ⟨w.heap.size, 0, none⟩ = some (.int .i64 m) := cell_alloc c0 _
        have HKF := Lib.hid (HK1.out.trans HK5.out (fun _ _ h => h))
        by_cases hcap : c5 = n
        · subst hcap
          have HDR := Lib.hid (nsl_drop HNS.out (k := c5) hnl)
          rw [if_pos rfl, Nat.sub_self] at HDR
          obtain ⟨D, hD⟩ : ∃ D, D = BS.drop c5 := ⟨_, rfl⟩
          rw [← hD] at HDR HDL ⊢
          have HEQ := Lib.hid hD
          clear hD
          go_region_law (first | (go_simp; go_at_call 44; refine (HOF.out _ _ (by first | exact HT5.out | exact HT5.out.kept (S := NoB) (Kept.refl NoB _).drew (fun _ _ _ h => h) | exact HT5.out.kept (S := NoB) ((Kept.refl NoB _).alloc _).drew (fun _ _ _ h => h) | exact HT5.out.kept (S := NoB) ((Kept.refl NoB _).drew.alloc _) (fun _ _ _ h => h))).mono ?_; rintro e w7 ⟨a7, c7, rfl, hx7, hk7⟩; have HKR := Lib.hid hk7; have HXR := Lib.hid hx7; (have hk7' : Kept NoB w5 w7 := by first | exact (Kept.refl NoB w5).drew.trans hk7 (fun _ _ h => h) | exact ((Kept.refl NoB w5).alloc (.cells #[.int .i64 0, .int .i64 0, .slice none 0 0] 47)).drew.trans hk7 (fun _ _ h => h)); have HK7 := Lib.hid hk7'; clear c0 c1 c2 c0a; obtain ⟨c0, c1, c2⟩ := (HA5.out.no hk7').cells; (first | (have hz10 : IAt 47 w7 w5.heap.size 0 0 (.slice none 0 0) := (show Kept NoB ((w5.alloc (.cells #[.int .i64 0, .int .i64 0, .slice none 0 0] 47)).drew) w7 from hk7).heap (fun h => h) (heap_alloc_new w5 (.cells #[.int .i64 0, .int .i64 0, .slice none 0 0] 47)); have HZ10 := Lib.hid hz10; obtain ⟨y0, y1, y2⟩ := hz10.cells; have g0 := frz3 hz10 0; have g1 := frz3 hz10 1; have g2 := frz3 hz10 2; clear hz10) | (have hz10 := IAt.new 47 w7 0 0 (.slice none 0 0); have HZ10 := Lib.hid hz10; obtain ⟨y0, y1, y2⟩ := hz10.cells; have g0 := frz3 hz10 0; have g1 := frz3 hz10 1; have g2 := frz3 hz10 2; clear hz10)); clear hx7 hk7 hk7') | (go_simp; go_at_call 46; refine (HND.out _).mono ?_; rintro e w4 ⟨rfl, rfl⟩))
          all_goals
            have hIX : ∃ wx p, IAt 47 wx p rm rs (.slice a7 L.length c7) := ⟨_, _, IAt.new 47 w rm rs (.slice a7 L.length c7)⟩
            clear hIX
            first
              | (obtain ⟨wx, p, hwx, hp⟩ : ∃ wx p, wx = w7.alloc (.cells #[.int .i64 rm, .int .i64 rs, .slice a7 L.length c7] 47) ∧ p = w7.heap.size := ⟨_, _, rfl, rfl⟩
                 rw [← hwx, ← hp]
                 have hI : IAt 47 wx p rm rs (.slice a7 L.length c7) := by rw [hwx, hp]; exact IAt.new 47 w7 rm rs (.slice a7 L.length c7)
                 have hKX : Kept NoB w7 wx := by rw [hwx]; exact (Kept.refl NoB w7).alloc _
                 have hKW : Kept NoB w5 wx := HK7.out.trans hKX (fun _ _ h => h)
                 have HXX : Hid (XSl wx (fun k => w5.heap.size ≤ k) (.slice a7 L.length c7) L) := Lib.hid ((HXR.out.mono (fun k _ hx => by simp at hx; omega)).no hKX)
                 have hpz : w5.heap.size ≤ p := by rw [hp]; exact HK7.out.size)
              | (obtain ⟨wx, p, hwx, hp⟩ : ∃ wx p, wx = (((w7.setCell ⟨w5.heap.size, 0, none⟩ (.int .i64 rm)).setCell ⟨w5.heap.size, 1, none⟩ (.int .i64 rs)).setCell ⟨w5.heap.size, 2, none⟩ (.slice a7 L.length c7)) ∧ p = w5.heap.size := ⟨_, _, rfl, rfl⟩
                 rw [← hwx, ← hp]
                 have hI : IAt 47 wx p rm rs (.slice a7 L.length c7) := by rw [hwx, hp]; exact set3_heap HZ10.out _ _ _
                 have hKX : Kept (fun k => k = p) w7 wx := by rw [hwx, hp]; exact set3_kept _ _ _ _ _
                 have hKW : Kept NoB w5 wx := HK7.out.trans hKX (fun i hi he => absurd hi (by omega))
                 have HXX : Hid (XSl wx (fun k => w5.heap.size ≤ k) (.slice a7 L.length c7) L) := Lib.hid ((HXR.out.kept hKX (fun k _ hx he => by simp at hx; omega)).mono (fun k _ hx => by simp at hx; omega))
                 have hpz : w5.heap.size ≤ p := by rw [hp]; exact Nat.le_refl _)
            have HBX : Hid (IAt 47 wx (w.heap.size + 1) 0 0 (.slice none 0 0)) := Lib.hid (HB5.out.no hKW)
            have HDX := Lib.hid (HDR.out.kept hKW (fun _ _ _ h => h))
            have HKX := Lib.hid (HKF.out.trans hKW (fun _ _ h => h))
            clear c0 c1 c2 y0 y1 y2 g0 g1 g2 HZ10 hwx hp hKX hKW HKR HK7
            obtain ⟨c0, c1, c2⟩ := hI.cells
            obtain ⟨q0, q1, q2⟩ := HBX.out.cells
            have f0 := frz3 HBX.out 0
            have f1 := frz3 HBX.out 1
            have f2 := frz3 HBX.out 2
            clear hI
            obtain ⟨r0, r1, r2⟩ := cells3 (set3_heap HBX.out (.int .i64 rm) (.int .i64 rs) (.slice a7 L.length c7))
            go_wp2
            go_simp
            go_region_law (go_simp; go_at_call 46; refine (HND.out _).mono ?_; rintro e w4 ⟨rfl, rfl⟩)
            all_goals
              obtain ⟨r0, r1, r2⟩ := cells3 (w := (((wx.setCell ⟨w.heap.size + 1, 0, none⟩ (.int .i64 rm)).setCell ⟨w.heap.size + 1, 1, none⟩ (.int .i64 rs)).setCell ⟨w.heap.size + 1, 2, none⟩ (.slice a7 L.length c7)).drew) (set3_heap HBX.out (.int .i64 rm) (.int .i64 rs) (.slice a7 L.length c7))
              have hkf := (set3_kept wx (w.heap.size + 1) (.int .i64 rm) (.int .i64 rs) (.slice a7 L.length c7)).drew
              have HF := Lib.hid (IRes3.mk (w := w) (er := q) (m := rm) (s := rs) rfl ((HXX.out.kept hkf (fun k _ hx he => by omega)).mono (fun k _ hx => by omega)) ((HDX.out.kept hkf (fun k _ hx he => by omega)).mono (fun k _ hx => by omega)) (HKX.out.trans hkf (fun i hi he => absurd hi (by omega))))
              clear hkf
              go_wp2
              exact bodyPost_ret (v := .tuple #[iv28 rm rs (.slice a7 L.length c7), .slice a5 (BS.length - c5) 0, .int .i64 q]) (by simp [results, Try.results50, go_sem, r0, r1, r2]) rfl (by have h := HF.out; rw [HEQ.out] at h; exact h)
        · skip
          have HDR := Lib.hid (nsl_drop HNS.out (k := n) hnl)
          rw [if_neg hcap] at HDR
          obtain ⟨D, hD⟩ : ∃ D, D = BS.drop n := ⟨_, rfl⟩
          rw [← hD] at HDR HDL ⊢
          have HEQ := Lib.hid hD
          clear hD
          go_region_law (first | (go_simp; go_at_call 44; refine (HOF.out _ _ (by first | exact HT5.out | exact HT5.out.kept (S := NoB) (Kept.refl NoB _).drew (fun _ _ _ h => h) | exact HT5.out.kept (S := NoB) ((Kept.refl NoB _).alloc _).drew (fun _ _ _ h => h) | exact HT5.out.kept (S := NoB) ((Kept.refl NoB _).drew.alloc _) (fun _ _ _ h => h))).mono ?_; rintro e w7 ⟨a7, c7, rfl, hx7, hk7⟩; have HKR := Lib.hid hk7; have HXR := Lib.hid hx7; (have hk7' : Kept NoB w5 w7 := by first | exact (Kept.refl NoB w5).drew.trans hk7 (fun _ _ h => h) | exact ((Kept.refl NoB w5).alloc (.cells #[.int .i64 0, .int .i64 0, .slice none 0 0] 47)).drew.trans hk7 (fun _ _ h => h)); have HK7 := Lib.hid hk7'; clear c0 c1 c2 c0a; obtain ⟨c0, c1, c2⟩ := (HA5.out.no hk7').cells; (first | (have hz10 : IAt 47 w7 w5.heap.size 0 0 (.slice none 0 0) := (show Kept NoB ((w5.alloc (.cells #[.int .i64 0, .int .i64 0, .slice none 0 0] 47)).drew) w7 from hk7).heap (fun h => h) (heap_alloc_new w5 (.cells #[.int .i64 0, .int .i64 0, .slice none 0 0] 47)); have HZ10 := Lib.hid hz10; obtain ⟨y0, y1, y2⟩ := hz10.cells; have g0 := frz3 hz10 0; have g1 := frz3 hz10 1; have g2 := frz3 hz10 2; clear hz10) | (have hz10 := IAt.new 47 w7 0 0 (.slice none 0 0); have HZ10 := Lib.hid hz10; obtain ⟨y0, y1, y2⟩ := hz10.cells; have g0 := frz3 hz10 0; have g1 := frz3 hz10 1; have g2 := frz3 hz10 2; clear hz10)); clear hx7 hk7 hk7') | (go_simp; go_at_call 46; refine (HND.out _).mono ?_; rintro e w4 ⟨rfl, rfl⟩))
          all_goals
            have hIX : ∃ wx p, IAt 47 wx p rm rs (.slice a7 L.length c7) := ⟨_, _, IAt.new 47 w rm rs (.slice a7 L.length c7)⟩
            clear hIX
            first
              | (obtain ⟨wx, p, hwx, hp⟩ : ∃ wx p, wx = w7.alloc (.cells #[.int .i64 rm, .int .i64 rs, .slice a7 L.length c7] 47) ∧ p = w7.heap.size := ⟨_, _, rfl, rfl⟩
                 rw [← hwx, ← hp]
                 have hI : IAt 47 wx p rm rs (.slice a7 L.length c7) := by rw [hwx, hp]; exact IAt.new 47 w7 rm rs (.slice a7 L.length c7)
                 have hKX : Kept NoB w7 wx := by rw [hwx]; exact (Kept.refl NoB w7).alloc _
                 have hKW : Kept NoB w5 wx := HK7.out.trans hKX (fun _ _ h => h)
                 have HXX : Hid (XSl wx (fun k => w5.heap.size ≤ k) (.slice a7 L.length c7) L) := Lib.hid ((HXR.out.mono (fun k _ hx => by simp at hx; omega)).no hKX)
                 have hpz : w5.heap.size ≤ p := by rw [hp]; exact HK7.out.size)
              | (obtain ⟨wx, p, hwx, hp⟩ : ∃ wx p, wx = (((w7.setCell ⟨w5.heap.size, 0, none⟩ (.int .i64 rm)).setCell ⟨w5.heap.size, 1, none⟩ (.int .i64 rs)).setCell ⟨w5.heap.size, 2, none⟩ (.slice a7 L.length c7)) ∧ p = w5.heap.size := ⟨_, _, rfl, rfl⟩
                 rw [← hwx, ← hp]
                 have hI : IAt 47 wx p rm rs (.slice a7 L.length c7) := by rw [hwx, hp]; exact set3_heap HZ10.out _ _ _
                 have hKX : Kept (fun k => k = p) w7 wx := by rw [hwx, hp]; exact set3_kept _ _ _ _ _
                 have hKW : Kept NoB w5 wx := HK7.out.trans hKX (fun i hi he => absurd hi (by omega))
                 have HXX : Hid (XSl wx (fun k => w5.heap.size ≤ k) (.slice a7 L.length c7) L) := Lib.hid ((HXR.out.kept hKX (fun k _ hx he => by simp at hx; omega)).mono (fun k _ hx => by simp at hx; omega))
                 have hpz : w5.heap.size ≤ p := by rw [hp]; exact Nat.le_refl _)
            have HBX : Hid (IAt 47 wx (w.heap.size + 1) 0 0 (.slice none 0 0)) := Lib.hid (HB5.out.no hKW)
            have HDX := Lib.hid (HDR.out.kept hKW (fun _ _ _ h => h))
            have HKX := Lib.hid (HKF.out.trans hKW (fun _ _ h => h))
            clear c0 c1 c2 y0 y1 y2 g0 g1 g2 HZ10 hwx hp hKX hKW HKR HK7
            obtain ⟨c0, c1, c2⟩ := hI.cells
            obtain ⟨q0, q1, q2⟩ := HBX.out.cells
            have f0 := frz3 HBX.out 0
            have f1 := frz3 HBX.out 1
            have f2 := frz3 HBX.out 2
            clear hI
            obtain ⟨r0, r1, r2⟩ := cells3 (set3_heap HBX.out (.int .i64 rm) (.int .i64 rs) (.slice a7 L.length c7))
            go_wp2
            go_simp
            go_region_law (go_simp; go_at_call 46; refine (HND.out _).mono ?_; rintro e w4 ⟨rfl, rfl⟩)
            all_goals
              obtain ⟨r0, r1, r2⟩ := cells3 (w := (((wx.setCell ⟨w.heap.size + 1, 0, none⟩ (.int .i64 rm)).setCell ⟨w.heap.size + 1, 1, none⟩ (.int .i64 rs)).setCell ⟨w.heap.size + 1, 2, none⟩ (.slice a7 L.length c7)).drew) (set3_heap HBX.out (.int .i64 rm) (.int .i64 rs) (.slice a7 L.length c7))
              have hkf := (set3_kept wx (w.heap.size + 1) (.int .i64 rm) (.int .i64 rs) (.slice a7 L.length c7)).drew
              have HF := Lib.hid (IRes3.mk (w := w) (er := q) (m := rm) (s := rs) rfl ((HXX.out.kept hkf (fun k _ hx he => by omega)).mono (fun k _ hx => by omega)) ((HDX.out.kept hkf (fun k _ hx he => by omega)).mono (fun k _ hx => by omega)) (HKX.out.trans hkf (fun i hi he => absurd hi (by omega))))
              clear hkf
              go_wp2
              exact bodyPost_ret (v := .tuple #[iv28 rm rs (.slice a7 L.length c7), .slice (a5.map (·.add n)) (BS.length - n) (c5 - n), .int .i64 q]) (by simp [results, Try.results50, go_sem, r0, r1, r2]) rfl (by have h := HF.out; rw [HEQ.out] at h; exact h)
  · obtain ⟨n1, n2⟩ := HNO.out (fun h => he (HER.out.trans h.1))
    rw [n1, n2, show ctE m s l z = er by unfold ctE; rw [← HER.out, if_neg he]]
    have hne : (er != 0) = true := bne_iff_ne.2 he
    clear he n1 n2
    go_enter Try.func50, Try.ntmps50
    go_wp2_with (go_at_call 31; refine HCK.out.mono ?_; rintro e w1 ⟨rfl, hk⟩; have HK1 := Lib.hid (HK0.out.trans hk (fun _ _ h => h)); have HB1 := Lib.hid (HB.out.no hk); clear c0 c1 c2; obtain ⟨c0, c1, c2⟩ := (HA.out.no hk).cells; obtain ⟨q0, q1, q2⟩ := HB1.out.cells; have f0 := frz3 HB1.out 0; have f1 := frz3 HB1.out 1; have f2 := frz3 HB1.out 2; clear hk)
    obtain ⟨r0, r1, r2⟩ := cells3 (set3_heap HB1.out (.int .i64 0) (.int .i64 0) (.slice none 0 0))
    exact bodyPost_ret (v := .tuple #[iv28 0 0 (.slice none 0 0), .slice none 0 0, .int .i64 er]) (by simp [results, Try.results50, go_sem, r0, r1, r2]) rfl (IRes3.zero rfl (HK1.out.trans (set3_kept _ _ _ _ _) (fun i hi he => absurd hi (by omega))))
set_option maxRecDepth 100000 in
set_option maxHeartbeats 20000000 in
theorem rCut_any (m s z : Int) (u : Value) (l : List Xt) (F : Nat → Prop) (w : World) (h : XSl w F u l) (hl : l.length ≤ 1000) (h0 : -9223372036854775808 ≤ s) (h1 : s ≤ 9223372036854775807) (z0 : -9223372036854775808 ≤ z) (z1 : z ≤ 9223372036854775807) :
    Calls Try.prog 51 #[iv28 m s u, .int .i64 z] w (IRes3 (ctE m s l z) (ctR m s l z).1 (ctR m s l z).2.1 (ctR m s l z).2.2 (ctB m s l z) w) := by
  obtain ⟨a, cap, rfl, hca, hcm, _⟩ := id h
  have hk0 := ((Kept.refl NoB w).alloc (.cells #[.int .i64 m, .int .i64 s, .slice a l.length cap] 43)).alloc (.cells #[.int .i64 0, .int .i64 0, .slice none 0 0] 43)
  have HK0 := Lib.hid hk0
  have HX := Lib.hid (h.no hk0)
  have hA := ((Kept.refl NoB _).alloc (.cells #[.int .i64 0, .int .i64 0, .slice none 0 0] 43)).heap (fun h => h) (heap_alloc_new w (.cells #[.int .i64 m, .int .i64 s, .slice a l.length cap] 43))
  have hB := heap_alloc_new (w.alloc (.cells #[.int .i64 m, .int .i64 s, .slice a l.length cap] 43)) (.cells #[.int .i64 0, .int .i64 0, .slice none 0 0] 43)
  rw [show (w.alloc (.cells #[.int .i64 m, .int .i64 s, .slice a l.length cap] 43)).heap.size = w.heap.size + 1 by simp] at hB
  have HA : Hid (IAt 43 ((w.alloc (.cells #[.int .i64 m, .int .i64 s, .slice a l.length cap] 43)).alloc (.cells #[.int .i64 0, .int .i64 0, .slice none 0 0] 43)) w.heap.size m s (.slice a l.length cap)) := Lib.hid hA
  have HB : Hid (IAt 43 ((w.alloc (.cells #[.int .i64 m, .int .i64 s, .slice a l.length cap] 43)).alloc (.cells #[.int .i64 0, .int .i64 0, .slice none 0 0] 43)) (w.heap.size + 1) 0 0 (.slice none 0 0)) := Lib.hid hB
  have HCK := Lib.hid (rCheck_any m s _ l _ _ (h.no hk0) hl)
  obtain ⟨c0, c1, c2⟩ := HA.out.cells
  obtain ⟨er, her⟩ : ∃ er, er = chk28 m s l := ⟨_, rfl⟩
  rw [← her] at HCK
  have HER := Lib.hid her
  clear hk0 hA hB her h
  have HNO : Hid (¬ ctOk m s l z → ctR m s l z = (0, 0, []) ∧ ctB m s l z = []) := Lib.hid (fun h => ⟨by unfold ctR; rw [if_neg h], by unfold ctB; rw [if_neg h]⟩)
  by_cases he : er = 0
  · have hc0 := HER.out
    rw [he] at hc0
    obtain ⟨hm0, hm2, hs0, hs5, ⟨hve, _, _, hnd⟩, hl8⟩ := chk_zero hc0.symm
    rw [he] at HCK
    by_cases hmz : m = 0
    · obtain ⟨n1, n2⟩ := HNO.out (fun h => h.2.1 hmz)
      rw [n1, n2, show ctE m s l z = 12 by unfold ctE; rw [← hc0, if_pos rfl, if_pos hmz]]
      have d1 : (m == 0) = true := by rw [hmz]; rfl
      clear he hmz hc0 hve hnd n1 n2
      go_enter Try.func51, Try.ntmps51
      go_wp2_with (go_at_call 34; refine HCK.out.mono ?_; rintro e w1 ⟨rfl, hk⟩; have HK1 := Lib.hid (HK0.out.trans hk (fun _ _ h => h)); have HB1 := Lib.hid (HB.out.no hk); clear c0 c1 c2; obtain ⟨c0, c1, c2⟩ := (HA.out.no hk).cells; obtain ⟨q0, q1, q2⟩ := HB1.out.cells; have f0 := frz3 HB1.out 0; have f1 := frz3 HB1.out 1; have f2 := frz3 HB1.out 2; clear hk)
      obtain ⟨r0, r1, r2⟩ := cells3 (set3_heap HB1.out (.int .i64 0) (.int .i64 0) (.slice none 0 0))
      exact bodyPost_ret (v := .tuple #[iv28 0 0 (.slice none 0 0), .slice none 0 0, .int .i64 12]) (by simp [results, Try.results51, go_sem, r0, r1, r2]) rfl (IRes3.zero rfl (HK1.out.trans (set3_kept _ _ _ _ _) (fun i hi he => absurd hi (by omega))))
    · have d1 : (m == 0) = false := by simpa using hmz
      by_cases hz : z < 0 ∨ s < z
      · obtain ⟨n1, n2⟩ := HNO.out (fun h => h.2.2 hz)
        rw [n1, n2, show ctE m s l z = 20 by unfold ctE; rw [← hc0, if_pos rfl, if_neg hmz, if_pos hz]]
        by_cases hz0 : z < 0
        · have d2 : decide (z < 0) = true := decide_eq_true hz0
          clear he hmz hc0 hve hnd n1 n2 hz hz0
          go_enter Try.func51, Try.ntmps51
          go_wp2_with (go_at_call 34; refine HCK.out.mono ?_; rintro e w1 ⟨rfl, hk⟩; have HK1 := Lib.hid (HK0.out.trans hk (fun _ _ h => h)); have HB1 := Lib.hid (HB.out.no hk); clear c0 c1 c2; obtain ⟨c0, c1, c2⟩ := (HA.out.no hk).cells; obtain ⟨q0, q1, q2⟩ := HB1.out.cells; have f0 := frz3 HB1.out 0; have f1 := frz3 HB1.out 1; have f2 := frz3 HB1.out 2; clear hk)
          obtain ⟨r0, r1, r2⟩ := cells3 (set3_heap HB1.out (.int .i64 0) (.int .i64 0) (.slice none 0 0))
          exact bodyPost_ret (v := .tuple #[iv28 0 0 (.slice none 0 0), .slice none 0 0, .int .i64 20]) (by simp [results, Try.results51, go_sem, r0, r1, r2]) rfl (IRes3.zero rfl (HK1.out.trans (set3_kept _ _ _ _ _) (fun i hi he => absurd hi (by omega))))
        · have d2 : decide (z < 0) = false := decide_eq_false hz0
          have d3 : decide (s < z) = true := decide_eq_true (by omega)
          clear he hmz hc0 hve hnd n1 n2 hz hz0
          go_enter Try.func51, Try.ntmps51
          go_wp2_with (go_at_call 34; refine HCK.out.mono ?_; rintro e w1 ⟨rfl, hk⟩; have HK1 := Lib.hid (HK0.out.trans hk (fun _ _ h => h)); have HB1 := Lib.hid (HB.out.no hk); clear c0 c1 c2; obtain ⟨c0, c1, c2⟩ := (HA.out.no hk).cells; obtain ⟨q0, q1, q2⟩ := HB1.out.cells; have f0 := frz3 HB1.out 0; have f1 := frz3 HB1.out 1; have f2 := frz3 HB1.out 2; clear hk)
          obtain ⟨r0, r1, r2⟩ := cells3 (set3_heap HB1.out (.int .i64 0) (.int .i64 0) (.slice none 0 0))
          exact bodyPost_ret (v := .tuple #[iv28 0 0 (.slice none 0 0), .slice none 0 0, .int .i64 20]) (by simp [results, Try.results51, go_sem, r0, r1, r2]) rfl (IRes3.zero rfl (HK1.out.trans (set3_kept _ _ _ _ _) (fun i hi he => absurd hi (by omega))))
      · have hok : ctOk m s l z := ⟨hc0.symm, hmz, hz⟩
        have d2 : decide (z < 0) = false := decide_eq_false (fun h => hz (.inl h))
        have d3 : decide (s < z) = false := decide_eq_false (fun h => hz (.inr h))
        rw [hok.err, show ctR m s l z = ofR m z ((blk l).take (need28 z).toNat) by unfold ctR; rw [if_pos hok], show ctB m s l z = (blk l).drop (need28 z).toNat by unfold ctB; rw [if_pos hok]]
        have hmon := need_mono (show z ≤ s by omega)
        obtain ⟨n, hn⟩ := Int.eq_ofNat_of_zero_le (need_nn z)
        rw [hn, Int.toNat_natCast]
        rw [hn] at hmon
        have hnl : n ≤ (blk l).length := by omega
        have HND := Lib.hid (fun W => rNeed_any z W z0 z1)
        rw [hn] at HND
        have hbk := blk_len l
        have HBL := Lib.hid (fun W (hx : XSl W (fun _ => True) (.slice a l.length cap) l) => rBlocks_any m s _ l _ W hx hl)
        have hbr : ∀ x ∈ (blk l).take n, -9223372036854775808 ≤ x ∧ x ≤ 9223372036854775807 := fun x hx => by
          have hx := List.mem_of_mem_take hx
          unfold blk at hx
          obtain ⟨e, he1, he2⟩ := List.mem_flatMap.1 hx
          have := (eblk_mem (hve e he1)).1 he2
          obtain ⟨_, _, _, _, _⟩ := hve e he1
          omega
        have HBR := Lib.hid hbr
        obtain ⟨BS, hBS⟩ : ∃ BS, BS = blk l := ⟨_, rfl⟩
        rw [← hBS] at hbk HBL HBR hnl ⊢
        have hbt : (BS.take n).length = n := by rw [List.length_take]; omega
        have HOF := Lib.hid (fun x W (hx : NSl W (fun _ => True) x (BS.take n)) => rOf_all m z x (BS.take n) _ W hx (by omega) HBR.out)
        obtain ⟨R, hR⟩ : ∃ R, R = ofR m z (BS.take n) := ⟨_, rfl⟩
        obtain ⟨q, hq⟩ : ∃ q, q = ofE m z (BS.take n) := ⟨_, rfl⟩
        rw [← hR, ← hq] at HOF ⊢
        obtain ⟨rm, rs, L⟩ := R
        simp only at HOF ⊢
        have hb0 : BS.length ≤ 9223372036854775807 := by omega
        have hn1 : (n : Int) ≤ (BS.length : Int) := by omega
        have HDL : Hid ((BS.drop n).length = BS.length - n) := Lib.hid (by rw [List.length_drop])
        clear he hmz hz hc0 hve hnd hbr hBS hR hq hn hmon hok hbt
        go_enter Try.func51, Try.ntmps51
        go_wp2_with (first
          | (go_at_call 34; refine HCK.out.mono ?_; rintro e w1 ⟨rfl, hk⟩; have HK1 := Lib.hid (HK0.out.trans hk (fun _ _ h => h)); have HB1 := Lib.hid (HB.out.no hk); have HA1 := Lib.hid (HA.out.no hk); have HX1 := Lib.hid (HX.out.any.no hk); clear c0 c1 c2; obtain ⟨c0, c1, c2⟩ := HA1.out.cells; clear hk)
          | (go_at_call 38; refine (HBL.out _ HX1.out).mono ?_; rintro e w5 ⟨a5, c5, rfl, ho5, hk5⟩; have HNS := Lib.hid ho5.nslB; have HK5 := Lib.hid hk5; have HA5 := Lib.hid (HA1.out.no hk5); have HB5 := Lib.hid (HB1.out.no hk5); have hc5 := ho5.nslB.len; clear c0 c1 c2; obtain ⟨c0, c1, c2⟩ := HA5.out.cells; clear ho5 hk5)
          | (go_at_call 47; refine (HND.out _).mono ?_; rintro e w4 ⟨rfl, rfl⟩))
        have hnc : (n : Int) ≤ (c5 : Int) := by omega
        have hlc : (BS.length : Int) ≤ (c5 : Int) := by omega
        have hcm5 : (c5 : Int) ≤ 9223372036854775807 := by have := hc5.2.2; unfold maxLen at this; omega
        have hn0 : (0 : Int) ≤ (n : Int) := by omega
        have hz5 := HK5.out.size
        have hzk1 := HK1.out.size
        have hg1 := heap_lt HB1.out
        have HT5 : Hid (NSl w5 (fun _ => True) (.slice a5 n c5) (BS.take n)) := Lib.hid ((nsl_take HNS.out hnl).mono (fun _ _ _ => trivial))
        clear hc5
        have c0a : (w5.alloc (.cells #[.int .i64 0, .int .i64 0, .slice none 0 0] 43)).cell? ⟨w.heap.size, 0, none⟩ = some (.int .i64 m) := cell_alloc c0 _
        have HKF := Lib.hid (HK1.out.trans HK5.out (fun _ _ h => h))
        by_cases hcap : c5 = n
        · subst hcap
          have HDR := Lib.hid (nsl_drop HNS.out (k := c5) hnl)
          rw [if_pos rfl, Nat.sub_self] at HDR
          obtain ⟨D, hD⟩ : ∃ D, D = BS.drop c5 := ⟨_, rfl⟩
          rw [← hD] at HDR HDL ⊢
          have HEQ := Lib.hid hD
          clear hD
          go_region_law (first | (go_simp; go_at_call 45; refine (HOF.out _ _ (by first | exact HT5.out | exact HT5.out.kept (S := NoB) (Kept.refl NoB _).drew (fun _ _ _ h => h) | exact HT5.out.kept (S := NoB) ((Kept.refl NoB _).alloc _).drew (fun _ _ _ h => h) | exact HT5.out.kept (S := NoB) ((Kept.refl NoB _).drew.alloc _) (fun _ _ _ h => h))).mono ?_; rintro e w7 ⟨a7, c7, rfl, hx7, hk7⟩; have HKR := Lib.hid hk7; have HXR := Lib.hid hx7; (have hk7' : Kept NoB w5 w7 := by first | exact (Kept.refl NoB w5).drew.trans hk7 (fun _ _ h => h) | exact ((Kept.refl NoB w5).alloc (.cells #[.int .i64 0, .int .i64 0, .slice none 0 0] 43)).drew.trans hk7 (fun _ _ h => h)); have HK7 := Lib.hid hk7'; clear c0 c1 c2 c0a; obtain ⟨c0, c1, c2⟩ := (HA5.out.no hk7').cells; (first | (have hz10 : IAt 43 w7 w5.heap.size 0 0 (.slice none 0 0) := (show Kept NoB ((w5.alloc (.cells #[.int .i64 0, .int .i64 0, .slice none 0 0] 43)).drew) w7 from hk7).heap (fun h => h) (heap_alloc_new w5 (.cells #[.int .i64 0, .int .i64 0, .slice none 0 0] 43)); have HZ10 := Lib.hid hz10; obtain ⟨y0, y1, y2⟩ := hz10.cells; have g0 := frz3 hz10 0; have g1 := frz3 hz10 1; have g2 := frz3 hz10 2; clear hz10) | (have hz10 := IAt.new 43 w7 0 0 (.slice none 0 0); have HZ10 := Lib.hid hz10; obtain ⟨y0, y1, y2⟩ := hz10.cells; have g0 := frz3 hz10 0; have g1 := frz3 hz10 1; have g2 := frz3 hz10 2; clear hz10)); clear hx7 hk7 hk7') | (go_simp; go_at_call 47; refine (HND.out _).mono ?_; rintro e w4 ⟨rfl, rfl⟩))
          all_goals
            have hIX : ∃ wx p, IAt 43 wx p rm rs (.slice a7 L.length c7) := ⟨_, _, IAt.new 43 w rm rs (.slice a7 L.length c7)⟩
            clear hIX
            first
              | (obtain ⟨wx, p, hwx, hp⟩ : ∃ wx p, wx = w7.alloc (.cells #[.int .i64 rm, .int .i64 rs, .slice a7 L.length c7] 43) ∧ p = w7.heap.size := ⟨_, _, rfl, rfl⟩
                 rw [← hwx, ← hp]
                 have hI : IAt 43 wx p rm rs (.slice a7 L.length c7) := by rw [hwx, hp]; exact IAt.new 43 w7 rm rs (.slice a7 L.length c7)
                 have hKX : Kept NoB w7 wx := by rw [hwx]; exact (Kept.refl NoB w7).alloc _
                 have hKW : Kept NoB w5 wx := HK7.out.trans hKX (fun _ _ h => h)
                 have HXX : Hid (XSl wx (fun k => w5.heap.size ≤ k) (.slice a7 L.length c7) L) := Lib.hid ((HXR.out.mono (fun k _ hx => by simp at hx; omega)).no hKX)
                 have hpz : w5.heap.size ≤ p := by rw [hp]; exact HK7.out.size)
              | (obtain ⟨wx, p, hwx, hp⟩ : ∃ wx p, wx = (((w7.setCell ⟨w5.heap.size, 0, none⟩ (.int .i64 rm)).setCell ⟨w5.heap.size, 1, none⟩ (.int .i64 rs)).setCell ⟨w5.heap.size, 2, none⟩ (.slice a7 L.length c7)) ∧ p = w5.heap.size := ⟨_, _, rfl, rfl⟩
                 rw [← hwx, ← hp]
                 have hI : IAt 43 wx p rm rs (.slice a7 L.length c7) := by rw [hwx, hp]; exact set3_heap HZ10.out _ _ _
                 have hKX : Kept (fun k => k = p) w7 wx := by rw [hwx, hp]; exact set3_kept _ _ _ _ _
                 have hKW : Kept NoB w5 wx := HK7.out.trans hKX (fun i hi he => absurd hi (by omega))
                 have HXX : Hid (XSl wx (fun k => w5.heap.size ≤ k) (.slice a7 L.length c7) L) := Lib.hid ((HXR.out.kept hKX (fun k _ hx he => by simp at hx; omega)).mono (fun k _ hx => by simp at hx; omega))
                 have hpz : w5.heap.size ≤ p := by rw [hp]; exact Nat.le_refl _)
            have HBX : Hid (IAt 43 wx (w.heap.size + 1) 0 0 (.slice none 0 0)) := Lib.hid (HB5.out.no hKW)
            have HDX := Lib.hid (HDR.out.kept hKW (fun _ _ _ h => h))
            have HKX := Lib.hid (HKF.out.trans hKW (fun _ _ h => h))
            clear c0 c1 c2 y0 y1 y2 g0 g1 g2 HZ10 hwx hp hKX hKW HKR HK7
            obtain ⟨c0, c1, c2⟩ := hI.cells
            obtain ⟨q0, q1, q2⟩ := HBX.out.cells
            have f0 := frz3 HBX.out 0
            have f1 := frz3 HBX.out 1
            have f2 := frz3 HBX.out 2
            clear hI
            obtain ⟨r0, r1, r2⟩ := cells3 (set3_heap HBX.out (.int .i64 rm) (.int .i64 rs) (.slice a7 L.length c7))
            go_wp2
            go_simp
            go_region_law (go_simp; go_at_call 47; refine (HND.out _).mono ?_; rintro e w4 ⟨rfl, rfl⟩)
            all_goals
              obtain ⟨r0, r1, r2⟩ := cells3 (w := (((wx.setCell ⟨w.heap.size + 1, 0, none⟩ (.int .i64 rm)).setCell ⟨w.heap.size + 1, 1, none⟩ (.int .i64 rs)).setCell ⟨w.heap.size + 1, 2, none⟩ (.slice a7 L.length c7)).drew) (set3_heap HBX.out (.int .i64 rm) (.int .i64 rs) (.slice a7 L.length c7))
              have hkf := (set3_kept wx (w.heap.size + 1) (.int .i64 rm) (.int .i64 rs) (.slice a7 L.length c7)).drew
              have HF := Lib.hid (IRes3.mk (w := w) (er := q) (m := rm) (s := rs) rfl ((HXX.out.kept hkf (fun k _ hx he => by omega)).mono (fun k _ hx => by omega)) ((HDX.out.kept hkf (fun k _ hx he => by omega)).mono (fun k _ hx => by omega)) (HKX.out.trans hkf (fun i hi he => absurd hi (by omega))))
              clear hkf
              go_wp2
              exact bodyPost_ret (v := .tuple #[iv28 rm rs (.slice a7 L.length c7), .slice a5 (BS.length - c5) 0, .int .i64 q]) (by simp [results, Try.results51, go_sem, r0, r1, r2]) rfl (by have h := HF.out; rw [HEQ.out] at h; exact h)
        · skip
          have HDR := Lib.hid (nsl_drop HNS.out (k := n) hnl)
          rw [if_neg hcap] at HDR
          obtain ⟨D, hD⟩ : ∃ D, D = BS.drop n := ⟨_, rfl⟩
          rw [← hD] at HDR HDL ⊢
          have HEQ := Lib.hid hD
          clear hD
          go_region_law (first | (go_simp; go_at_call 45; refine (HOF.out _ _ (by first | exact HT5.out | exact HT5.out.kept (S := NoB) (Kept.refl NoB _).drew (fun _ _ _ h => h) | exact HT5.out.kept (S := NoB) ((Kept.refl NoB _).alloc _).drew (fun _ _ _ h => h) | exact HT5.out.kept (S := NoB) ((Kept.refl NoB _).drew.alloc _) (fun _ _ _ h => h))).mono ?_; rintro e w7 ⟨a7, c7, rfl, hx7, hk7⟩; have HKR := Lib.hid hk7; have HXR := Lib.hid hx7; (have hk7' : Kept NoB w5 w7 := by first | exact (Kept.refl NoB w5).drew.trans hk7 (fun _ _ h => h) | exact ((Kept.refl NoB w5).alloc (.cells #[.int .i64 0, .int .i64 0, .slice none 0 0] 43)).drew.trans hk7 (fun _ _ h => h)); have HK7 := Lib.hid hk7'; clear c0 c1 c2 c0a; obtain ⟨c0, c1, c2⟩ := (HA5.out.no hk7').cells; (first | (have hz10 : IAt 43 w7 w5.heap.size 0 0 (.slice none 0 0) := (show Kept NoB ((w5.alloc (.cells #[.int .i64 0, .int .i64 0, .slice none 0 0] 43)).drew) w7 from hk7).heap (fun h => h) (heap_alloc_new w5 (.cells #[.int .i64 0, .int .i64 0, .slice none 0 0] 43)); have HZ10 := Lib.hid hz10; obtain ⟨y0, y1, y2⟩ := hz10.cells; have g0 := frz3 hz10 0; have g1 := frz3 hz10 1; have g2 := frz3 hz10 2; clear hz10) | (have hz10 := IAt.new 43 w7 0 0 (.slice none 0 0); have HZ10 := Lib.hid hz10; obtain ⟨y0, y1, y2⟩ := hz10.cells; have g0 := frz3 hz10 0; have g1 := frz3 hz10 1; have g2 := frz3 hz10 2; clear hz10)); clear hx7 hk7 hk7') | (go_simp; go_at_call 47; refine (HND.out _).mono ?_; rintro e w4 ⟨rfl, rfl⟩))
          all_goals
            have hIX : ∃ wx p, IAt 43 wx p rm rs (.slice a7 L.length c7) := ⟨_, _, IAt.new 43 w rm rs (.slice a7 L.length c7)⟩
            clear hIX
            first
              | (obtain ⟨wx, p, hwx, hp⟩ : ∃ wx p, wx = w7.alloc (.cells #[.int .i64 rm, .int .i64 rs, .slice a7 L.length c7] 43) ∧ p = w7.heap.size := ⟨_, _, rfl, rfl⟩
                 rw [← hwx, ← hp]
                 have hI : IAt 43 wx p rm rs (.slice a7 L.length c7) := by rw [hwx, hp]; exact IAt.new 43 w7 rm rs (.slice a7 L.length c7)
                 have hKX : Kept NoB w7 wx := by rw [hwx]; exact (Kept.refl NoB w7).alloc _
                 have hKW : Kept NoB w5 wx := HK7.out.trans hKX (fun _ _ h => h)
                 have HXX : Hid (XSl wx (fun k => w5.heap.size ≤ k) (.slice a7 L.length c7) L) := Lib.hid ((HXR.out.mono (fun k _ hx => by simp at hx; omega)).no hKX)
                 have hpz : w5.heap.size ≤ p := by rw [hp]; exact HK7.out.size)
              | (obtain ⟨wx, p, hwx, hp⟩ : ∃ wx p, wx = (((w7.setCell ⟨w5.heap.size, 0, none⟩ (.int .i64 rm)).setCell ⟨w5.heap.size, 1, none⟩ (.int .i64 rs)).setCell ⟨w5.heap.size, 2, none⟩ (.slice a7 L.length c7)) ∧ p = w5.heap.size := ⟨_, _, rfl, rfl⟩
                 rw [← hwx, ← hp]
                 have hI : IAt 43 wx p rm rs (.slice a7 L.length c7) := by rw [hwx, hp]; exact set3_heap HZ10.out _ _ _
                 have hKX : Kept (fun k => k = p) w7 wx := by rw [hwx, hp]; exact set3_kept _ _ _ _ _
                 have hKW : Kept NoB w5 wx := HK7.out.trans hKX (fun i hi he => absurd hi (by omega))
                 have HXX : Hid (XSl wx (fun k => w5.heap.size ≤ k) (.slice a7 L.length c7) L) := Lib.hid ((HXR.out.kept hKX (fun k _ hx he => by simp at hx; omega)).mono (fun k _ hx => by simp at hx; omega))
                 have hpz : w5.heap.size ≤ p := by rw [hp]; exact Nat.le_refl _)
            have HBX : Hid (IAt 43 wx (w.heap.size + 1) 0 0 (.slice none 0 0)) := Lib.hid (HB5.out.no hKW)
            have HDX := Lib.hid (HDR.out.kept hKW (fun _ _ _ h => h))
            have HKX := Lib.hid (HKF.out.trans hKW (fun _ _ h => h))
            clear c0 c1 c2 y0 y1 y2 g0 g1 g2 HZ10 hwx hp hKX hKW HKR HK7
            obtain ⟨c0, c1, c2⟩ := hI.cells
            obtain ⟨q0, q1, q2⟩ := HBX.out.cells
            have f0 := frz3 HBX.out 0
            have f1 := frz3 HBX.out 1
            have f2 := frz3 HBX.out 2
            clear hI
            obtain ⟨r0, r1, r2⟩ := cells3 (set3_heap HBX.out (.int .i64 rm) (.int .i64 rs) (.slice a7 L.length c7))
            go_wp2
            go_simp
            go_region_law (go_simp; go_at_call 47; refine (HND.out _).mono ?_; rintro e w4 ⟨rfl, rfl⟩)
            all_goals
              obtain ⟨r0, r1, r2⟩ := cells3 (w := (((wx.setCell ⟨w.heap.size + 1, 0, none⟩ (.int .i64 rm)).setCell ⟨w.heap.size + 1, 1, none⟩ (.int .i64 rs)).setCell ⟨w.heap.size + 1, 2, none⟩ (.slice a7 L.length c7)).drew) (set3_heap HBX.out (.int .i64 rm) (.int .i64 rs) (.slice a7 L.length c7))
              have hkf := (set3_kept wx (w.heap.size + 1) (.int .i64 rm) (.int .i64 rs) (.slice a7 L.length c7)).drew
              have HF := Lib.hid (IRes3.mk (w := w) (er := q) (m := rm) (s := rs) rfl ((HXX.out.kept hkf (fun k _ hx he => by omega)).mono (fun k _ hx => by omega)) ((HDX.out.kept hkf (fun k _ hx he => by omega)).mono (fun k _ hx => by omega)) (HKX.out.trans hkf (fun i hi he => absurd hi (by omega))))
              clear hkf
              go_wp2
              exact bodyPost_ret (v := .tuple #[iv28 rm rs (.slice a7 L.length c7), .slice (a5.map (·.add n)) (BS.length - n) (c5 - n), .int .i64 q]) (by simp [results, Try.results51, go_sem, r0, r1, r2]) rfl (by have h := HF.out; rw [HEQ.out] at h; exact h)
  · obtain ⟨n1, n2⟩ := HNO.out (fun h => he (HER.out.trans h.1))
    rw [n1, n2, show ctE m s l z = er by unfold ctE; rw [← HER.out, if_neg he]]
    have hne : (er != 0) = true := bne_iff_ne.2 he
    clear he n1 n2
    go_enter Try.func51, Try.ntmps51
    go_wp2_with (go_at_call 34; refine HCK.out.mono ?_; rintro e w1 ⟨rfl, hk⟩; have HK1 := Lib.hid (HK0.out.trans hk (fun _ _ h => h)); have HB1 := Lib.hid (HB.out.no hk); clear c0 c1 c2; obtain ⟨c0, c1, c2⟩ := (HA.out.no hk).cells; obtain ⟨q0, q1, q2⟩ := HB1.out.cells; have f0 := frz3 HB1.out 0; have f1 := frz3 HB1.out 1; have f2 := frz3 HB1.out 2; clear hk)
    obtain ⟨r0, r1, r2⟩ := cells3 (set3_heap HB1.out (.int .i64 0) (.int .i64 0) (.slice none 0 0))
    exact bodyPost_ret (v := .tuple #[iv28 0 0 (.slice none 0 0), .slice none 0 0, .int .i64 er]) (by simp [results, Try.results51, go_sem, r0, r1, r2]) rfl (IRes3.zero rfl (HK1.out.trans (set3_kept _ _ _ _ _) (fun i hi he => absurd hi (by omega))))
end Go.Proofs.Ytbacnkndllifaaa
namespace Go.Proofs.Ytbacnkndllifaaa
open Go.RowKit
set_option linter.unusedVariables false

theorem grR_len (m s : Int) (l : List Xt) (z : Int) (bs : List Int) : (grR m s l z bs).2.2.length ≤ 8 * l.length + bs.length + 0 * 1 ∨ (grR m s l z bs).2.2.length ≤ (blk l).length + bs.length := by
  right
  unfold grR
  split
  · exact Nat.le_trans (ofR_len _ _ _) (by rw [List.length_append]; exact Nat.le_refl _)
  · simp
theorem grR_len8 (m s : Int) (l : List Xt) (z : Int) (bs : List Int) (hl : l.length ≤ 40) (hb : bs.length ≤ 40) : (grR m s l z bs).2.2.length ≤ 1000 := by
  unfold grR
  split
  · rename_i h
    obtain ⟨_, _, _, _, ⟨hve, _⟩, hl8⟩ := chk_zero h.1
    have hbk : (blk l).length ≤ 8 * l.length := by have := blk_len l; omega
    have := ofR_len m z (blk l ++ bs)
    rw [List.length_append] at this
    omega
  · simp
theorem ctR_len8 (m s : Int) (l : List Xt) (z : Int) (hl : l.length ≤ 40) : (ctR m s l z).2.2.length ≤ 1000 := by
  unfold ctR
  split
  · rename_i h
    obtain ⟨_, _, _, _, ⟨hve, _⟩, hl8⟩ := chk_zero h.1
    have hbk : (blk l).length ≤ 8 * l.length := by have := blk_len l; omega
    have := ofR_len m z ((blk l).take (need28 z).toNat)
    rw [List.length_take] at this
    omega
  · simp
set_option maxRecDepth 100000 in
set_option maxHeartbeats 20000000 in
theorem InodeTurns_any (m s z : Int) (u v : Value) (l : List Xt) (bs : List Int) (W : World) (h : XSl W (fun k => k < W.heap.size) u l) (hv : NSl W (fun k => k < W.heap.size) v bs) (h0 : -9223372036854775808 ≤ s) (h1 : s ≤ 9223372036854775807) (z0 : -9223372036854775808 ≤ z) (z1 : z ≤ 9223372036854775807) (hb : ∀ x ∈ bs, -9223372036854775808 ≤ x ∧ x ≤ 9223372036854775807) :
    Calls Try.prog 10 #[iv28 m s u, .int .i64 z, v] W fun e W' => e = .returned (.bool true) ∧ Kept NoB W W' := by
  obtain ⟨a, cap, rfl, _, hcm, _⟩ := id h
  obtain ⟨av, cv, rfl, _, hvm, _⟩ := id hv
  have hk0 := (Kept.refl NoB W).alloc (.cells #[.int .i64 m, .int .i64 s, .slice a l.length cap] 43)
  have HK0 := Lib.hid hk0
  have HX0 := Lib.hid (h.any.no hk0)
  have HN0 := Lib.hid ((hv.mono (G := fun _ => True) (fun _ _ _ => trivial)).kept hk0 (fun _ _ _ h => h))
  have HB0 := Lib.hid (IAt.new 43 W m s (.slice a l.length cap))
  obtain ⟨c0, c1, c2⟩ := HB0.out.cells
  have HAW := Lib.hid awake28_any
  clear h hv hk0
  by_cases hl : 40 < bs.length
  · have d1 : decide ((40 : Int) < (bs.length : Int)) = true := decide_eq_true (by omega)
    have d2 : decide (40 < bs.length) = true := decide_eq_true hl
    clear hl hb
    go_enter Try.func10, Try.ntmps10
    go_wp2_with (go_at_call 30; refine (HAW.out _).mono ?_; rintro e w' ⟨rfl, hk⟩; have HK := Lib.hid (HK0.out.trans hk (fun _ _ h => h)); clear hk)
    go_ret
    exact ⟨rfl, HK.out⟩
  · have d1 : decide ((40 : Int) < (bs.length : Int)) = false := decide_eq_false (by omega)
    have d2 : decide (40 < bs.length) = false := decide_eq_false hl
    by_cases hx : 40 < l.length
    · have d3 : decide ((40 : Int) < (l.length : Int)) = true := decide_eq_true (by omega)
      have d4 : decide (40 < l.length) = true := decide_eq_true hx
      clear hl hx hb
      go_enter Try.func10, Try.ntmps10
      go_wp2_with (go_at_call 30; refine (HAW.out _).mono ?_; rintro e w' ⟨rfl, hk⟩; have HK := Lib.hid (HK0.out.trans hk (fun _ _ h => h)); clear hk)
      go_ret
      exact ⟨rfl, HK.out⟩
    · have d3 : decide ((40 : Int) < (l.length : Int)) = false := decide_eq_false (by omega)
      have d4 : decide (40 < l.length) = false := decide_eq_false hx
      have hl1 : l.length ≤ 1000 := by omega
      have hb5 : bs.length ≤ 500 := by omega
      have HG := Lib.hid (fun x (y : Value) W' (hx : XSl W' (fun _ => True) x l) (hy : NSl W' (fun _ => True) y bs) => iGrow_any m s z x y l bs _ _ W' hx hy hl1 hb5 h0 h1 z0 z1 hb)
      have HG2 := Lib.hid (fun x (y : Value) W' (hx : XSl W' (fun _ => True) x l) (hy : NSl W' (fun _ => True) y bs) => rGrow_any m s z x y l bs _ _ W' hx hy hl1 hb5 h0 h1 z0 z1 hb)
      have HC := Lib.hid (fun x W' (hx : XSl W' (fun _ => True) x l) => iCut_any m s z x l _ W' hx hl1 h0 h1 z0 z1)
      have HC2 := Lib.hid (fun x W' (hx : XSl W' (fun _ => True) x l) => rCut_any m s z x l _ W' hx hl1 h0 h1 z0 z1)
      have hg1 := grR_len8 m s l z bs (by omega) (by omega)
      have hg2 := ctR_len8 m s l z (by omega)
      obtain ⟨eg, heg⟩ : ∃ q, q = grE m s l z bs := ⟨_, rfl⟩
      obtain ⟨RG, hRG⟩ : ∃ q, q = grR m s l z bs := ⟨_, rfl⟩
      obtain ⟨ec, hec⟩ : ∃ q, q = ctE m s l z := ⟨_, rfl⟩
      obtain ⟨RC, hRC⟩ : ∃ q, q = ctR m s l z := ⟨_, rfl⟩
      obtain ⟨D, hD⟩ : ∃ q, q = ctB m s l z := ⟨_, rfl⟩
      rw [← heg, ← hRG] at HG HG2
      rw [← hec, ← hRC, ← hD] at HC HC2
      rw [← hRG] at hg1
      rw [← hRC] at hg2
      obtain ⟨gm, gs, GL⟩ := RG
      obtain ⟨cm, cs, CL⟩ := RC
      simp only at hg1 hg2 HG HG2 HC HC2
      clear hl hx hb heg hRG hec hRC hD
      have HK := Lib.hid (Kept.refl NoB (W.alloc (.cells #[.int .i64 m, .int .i64 s, .slice a l.length cap] 43)))
      go_enter Try.func10, Try.ntmps10
      go_wp2_with (first
        | (go_at_call 32; refine (ours_any m s _ l _ _ (HX0.out.no HK.out) hl1).mono ?_; rintro e w3 ⟨a3, c3, rfl, hx3, hk⟩; replace HK := Lib.hid (HK.out.trans hk (fun _ _ h => h)); (try replace HA1 := Lib.hid (HA1.out.no hk)); (try replace HS1 := Lib.hid (HS1.out.no hk)); (try replace HA2 := Lib.hid (HA2.out.no hk)); (try replace HS2 := Lib.hid (HS2.out.no hk)); (try replace HA3 := Lib.hid (HA3.out.no hk)); (try replace HS3 := Lib.hid (HS3.out.no hk)); (try replace HA4 := Lib.hid (HA4.out.no hk)); (try replace HS4 := Lib.hid (HS4.out.no hk)); (try replace HP := Lib.hid (HP.out.kept hk (fun _ _ _ h => h))); (try replace HQ := Lib.hid (HQ.out.kept hk (fun _ _ _ h => h))); have HY := Lib.hid hx3.any; (try clear c0 c1 c2); obtain ⟨c0, c1, c2⟩ := (HB0.out.no HK.out).cells; (try clear p0 p1 p2); (try (obtain ⟨p0, p1, p2⟩ := HA1.out.cells)); (try clear q0 q1 q2); (try (obtain ⟨q0, q1, q2⟩ := HA2.out.cells)); (try clear r0 r1 r2); (try (obtain ⟨r0, r1, r2⟩ := HA3.out.cells)); (try clear t0 t1 t2); (try (obtain ⟨t0, t1, t2⟩ := HA4.out.cells)); clear hx3 hk)
        | (go_at_call 48; refine (HG.out _ _ _ HY.out (HN0.out.kept HK.out (fun _ _ _ h => h))).mono ?_; rintro e w5 ⟨a5, c5, rfl, hx5, hk⟩; (try simp only at hx5); (have hk2 := (Kept.refl NoB w5).alloc (.cells #[.int .i64 gm, .int .i64 gs, .slice a5 GL.length c5] 47)); (have hk3 := hk.trans hk2 (fun _ _ h => h)); replace HK := Lib.hid (HK.out.trans hk3 (fun _ _ h => h)); (try replace HA1 := Lib.hid (HA1.out.no hk3)); (try replace HS1 := Lib.hid (HS1.out.no hk3)); (try replace HA2 := Lib.hid (HA2.out.no hk3)); (try replace HS2 := Lib.hid (HS2.out.no hk3)); (try replace HA3 := Lib.hid (HA3.out.no hk3)); (try replace HS3 := Lib.hid (HS3.out.no hk3)); (try replace HA4 := Lib.hid (HA4.out.no hk3)); (try replace HS4 := Lib.hid (HS4.out.no hk3)); (try replace HP := Lib.hid (HP.out.kept hk3 (fun _ _ _ h => h))); (try replace HQ := Lib.hid (HQ.out.kept hk3 (fun _ _ _ h => h))); have HA1 := Lib.hid (IAt.new 47 w5 gm gs (.slice a5 GL.length c5)); have HS1 := Lib.hid (hx5.any.no hk2); (try clear c0 c1 c2); obtain ⟨c0, c1, c2⟩ := (HB0.out.no HK.out).cells; (try clear p0 p1 p2); (try (obtain ⟨p0, p1, p2⟩ := HA1.out.cells)); (try clear q0 q1 q2); (try (obtain ⟨q0, q1, q2⟩ := HA2.out.cells)); (try clear r0 r1 r2); (try (obtain ⟨r0, r1, r2⟩ := HA3.out.cells)); (try clear t0 t1 t2); (try (obtain ⟨t0, t1, t2⟩ := HA4.out.cells)); clear hx5 hk hk2 hk3; clear HY)
        | (go_at_call 49; refine (HG2.out _ _ _ (HX0.out.no HK.out) (HN0.out.kept HK.out (fun _ _ _ h => h))).mono ?_; rintro e w5 ⟨a5, c5, rfl, hx5, hk⟩; (try simp only at hx5); (have hk2 := (Kept.refl NoB w5).alloc (.cells #[.int .i64 gm, .int .i64 gs, .slice a5 GL.length c5] 43)); (have hk3 := hk.trans hk2 (fun _ _ h => h)); replace HK := Lib.hid (HK.out.trans hk3 (fun _ _ h => h)); (try replace HA1 := Lib.hid (HA1.out.no hk3)); (try replace HS1 := Lib.hid (HS1.out.no hk3)); (try replace HA2 := Lib.hid (HA2.out.no hk3)); (try replace HS2 := Lib.hid (HS2.out.no hk3)); (try replace HA3 := Lib.hid (HA3.out.no hk3)); (try replace HS3 := Lib.hid (HS3.out.no hk3)); (try replace HA4 := Lib.hid (HA4.out.no hk3)); (try replace HS4 := Lib.hid (HS4.out.no hk3)); (try replace HP := Lib.hid (HP.out.kept hk3 (fun _ _ _ h => h))); (try replace HQ := Lib.hid (HQ.out.kept hk3 (fun _ _ _ h => h))); have HA2 := Lib.hid (IAt.new 43 w5 gm gs (.slice a5 GL.length c5)); have HS2 := Lib.hid (hx5.any.no hk2); (try clear c0 c1 c2); obtain ⟨c0, c1, c2⟩ := (HB0.out.no HK.out).cells; (try clear p0 p1 p2); (try (obtain ⟨p0, p1, p2⟩ := HA1.out.cells)); (try clear q0 q1 q2); (try (obtain ⟨q0, q1, q2⟩ := HA2.out.cells)); (try clear r0 r1 r2); (try (obtain ⟨r0, r1, r2⟩ := HA3.out.cells)); (try clear t0 t1 t2); (try (obtain ⟨t0, t1, t2⟩ := HA4.out.cells)); clear hx5 hk hk2 hk3)
        | (go_at_call 50; refine (HC.out _ _ HY.out).mono ?_; rintro e w5 ⟨a5, c5, b5, d5, rfl, hx5, hy5, hk⟩; (try simp only at hx5); (have hk2 := (Kept.refl NoB w5).alloc (.cells #[.int .i64 cm, .int .i64 cs, .slice a5 CL.length c5] 47)); (have hk3 := hk.trans hk2 (fun _ _ h => h)); replace HK := Lib.hid (HK.out.trans hk3 (fun _ _ h => h)); (try replace HA1 := Lib.hid (HA1.out.no hk3)); (try replace HS1 := Lib.hid (HS1.out.no hk3)); (try replace HA2 := Lib.hid (HA2.out.no hk3)); (try replace HS2 := Lib.hid (HS2.out.no hk3)); (try replace HA3 := Lib.hid (HA3.out.no hk3)); (try replace HS3 := Lib.hid (HS3.out.no hk3)); (try replace HA4 := Lib.hid (HA4.out.no hk3)); (try replace HS4 := Lib.hid (HS4.out.no hk3)); (try replace HP := Lib.hid (HP.out.kept hk3 (fun _ _ _ h => h))); (try replace HQ := Lib.hid (HQ.out.kept hk3 (fun _ _ _ h => h))); have HA3 := Lib.hid (IAt.new 47 w5 cm cs (.slice a5 CL.length c5)); have HS3 := Lib.hid (hx5.any.no hk2); have HP := Lib.hid ((hy5.mono (G := fun _ => True) (fun _ _ _ => trivial)).kept hk2 (fun _ _ _ h => h)); clear hy5; (try clear c0 c1 c2); obtain ⟨c0, c1, c2⟩ := (HB0.out.no HK.out).cells; (try clear p0 p1 p2); (try (obtain ⟨p0, p1, p2⟩ := HA1.out.cells)); (try clear q0 q1 q2); (try (obtain ⟨q0, q1, q2⟩ := HA2.out.cells)); (try clear r0 r1 r2); (try (obtain ⟨r0, r1, r2⟩ := HA3.out.cells)); (try clear t0 t1 t2); (try (obtain ⟨t0, t1, t2⟩ := HA4.out.cells)); clear hx5 hk hk2 hk3; clear HY)
        | (go_at_call 51; refine (HC2.out _ _ (HX0.out.no HK.out)).mono ?_; rintro e w5 ⟨a5, c5, b5, d5, rfl, hx5, hy5, hk⟩; (try simp only at hx5); (have hk2 := (Kept.refl NoB w5).alloc (.cells #[.int .i64 cm, .int .i64 cs, .slice a5 CL.length c5] 43)); (have hk3 := hk.trans hk2 (fun _ _ h => h)); replace HK := Lib.hid (HK.out.trans hk3 (fun _ _ h => h)); (try replace HA1 := Lib.hid (HA1.out.no hk3)); (try replace HS1 := Lib.hid (HS1.out.no hk3)); (try replace HA2 := Lib.hid (HA2.out.no hk3)); (try replace HS2 := Lib.hid (HS2.out.no hk3)); (try replace HA3 := Lib.hid (HA3.out.no hk3)); (try replace HS3 := Lib.hid (HS3.out.no hk3)); (try replace HA4 := Lib.hid (HA4.out.no hk3)); (try replace HS4 := Lib.hid (HS4.out.no hk3)); (try replace HP := Lib.hid (HP.out.kept hk3 (fun _ _ _ h => h))); (try replace HQ := Lib.hid (HQ.out.kept hk3 (fun _ _ _ h => h))); have HA4 := Lib.hid (IAt.new 43 w5 cm cs (.slice a5 CL.length c5)); have HS4 := Lib.hid (hx5.any.no hk2); have HQ := Lib.hid ((hy5.mono (G := fun _ => True) (fun _ _ _ => trivial)).kept hk2 (fun _ _ _ h => h)); clear hy5; (try clear c0 c1 c2); obtain ⟨c0, c1, c2⟩ := (HB0.out.no HK.out).cells; (try clear p0 p1 p2); (try (obtain ⟨p0, p1, p2⟩ := HA1.out.cells)); (try clear q0 q1 q2); (try (obtain ⟨q0, q1, q2⟩ := HA2.out.cells)); (try clear r0 r1 r2); (try (obtain ⟨r0, r1, r2⟩ := HA3.out.cells)); (try clear t0 t1 t2); (try (obtain ⟨t0, t1, t2⟩ := HA4.out.cells)); clear hx5 hk hk2 hk3)
        | (have hmk := HMK; clear hmk; go_at_call 41; refine (like_true cm cs _ _ CL _ _ _ HS3.out HS4.out hg2).mono ?_; rintro e w5 ⟨rfl, hk⟩; replace HK := Lib.hid (HK.out.trans hk (fun _ _ h => h)); (try replace HA1 := Lib.hid (HA1.out.no hk)); (try replace HS1 := Lib.hid (HS1.out.no hk)); (try replace HA2 := Lib.hid (HA2.out.no hk)); (try replace HS2 := Lib.hid (HS2.out.no hk)); (try replace HA3 := Lib.hid (HA3.out.no hk)); (try replace HS3 := Lib.hid (HS3.out.no hk)); (try replace HA4 := Lib.hid (HA4.out.no hk)); (try replace HS4 := Lib.hid (HS4.out.no hk)); (try replace HP := Lib.hid (HP.out.kept hk (fun _ _ _ h => h))); (try replace HQ := Lib.hid (HQ.out.kept hk (fun _ _ _ h => h))); (try clear c0 c1 c2); obtain ⟨c0, c1, c2⟩ := (HB0.out.no HK.out).cells; (try clear p0 p1 p2); (try (obtain ⟨p0, p1, p2⟩ := HA1.out.cells)); (try clear q0 q1 q2); (try (obtain ⟨q0, q1, q2⟩ := HA2.out.cells)); (try clear r0 r1 r2); (try (obtain ⟨r0, r1, r2⟩ := HA3.out.cells)); (try clear t0 t1 t2); (try (obtain ⟨t0, t1, t2⟩ := HA4.out.cells)); clear hk)
        | (go_at_call 41; refine (like_true gm gs _ _ GL _ _ _ HS1.out HS2.out hg1).mono ?_; rintro e w5 ⟨rfl, hk⟩; replace HK := Lib.hid (HK.out.trans hk (fun _ _ h => h)); (try replace HA1 := Lib.hid (HA1.out.no hk)); (try replace HS1 := Lib.hid (HS1.out.no hk)); (try replace HA2 := Lib.hid (HA2.out.no hk)); (try replace HS2 := Lib.hid (HS2.out.no hk)); (try replace HA3 := Lib.hid (HA3.out.no hk)); (try replace HS3 := Lib.hid (HS3.out.no hk)); (try replace HA4 := Lib.hid (HA4.out.no hk)); (try replace HS4 := Lib.hid (HS4.out.no hk)); (try replace HP := Lib.hid (HP.out.kept hk (fun _ _ _ h => h))); (try replace HQ := Lib.hid (HQ.out.kept hk (fun _ _ _ h => h))); (try clear c0 c1 c2); obtain ⟨c0, c1, c2⟩ := (HB0.out.no HK.out).cells; (try clear p0 p1 p2); (try (obtain ⟨p0, p1, p2⟩ := HA1.out.cells)); (try clear q0 q1 q2); (try (obtain ⟨q0, q1, q2⟩ := HA2.out.cells)); (try clear r0 r1 r2); (try (obtain ⟨r0, r1, r2⟩ := HA3.out.cells)); (try clear t0 t1 t2); (try (obtain ⟨t0, t1, t2⟩ := HA4.out.cells)); have HMK := Lib.hid trivial; clear hk)
        | (go_at_call 24; refine (SameN_any _ _ D D _ _ _ HP.out HQ.out).mono ?_; rw [decide_eq_true rfl]; rintro e w5 ⟨rfl, hk⟩; replace HK := Lib.hid (HK.out.trans hk (fun _ _ h => h)); (try replace HA1 := Lib.hid (HA1.out.no hk)); (try replace HS1 := Lib.hid (HS1.out.no hk)); (try replace HA2 := Lib.hid (HA2.out.no hk)); (try replace HS2 := Lib.hid (HS2.out.no hk)); (try replace HA3 := Lib.hid (HA3.out.no hk)); (try replace HS3 := Lib.hid (HS3.out.no hk)); (try replace HA4 := Lib.hid (HA4.out.no hk)); (try replace HS4 := Lib.hid (HS4.out.no hk)); (try replace HP := Lib.hid (HP.out.kept hk (fun _ _ _ h => h))); (try replace HQ := Lib.hid (HQ.out.kept hk (fun _ _ _ h => h))); clear hk)
        | (go_at_call 30; refine (HAW.out _).mono ?_; rintro e w5 ⟨rfl, hk⟩; replace HK := Lib.hid (HK.out.trans hk (fun _ _ h => h)); (try replace HA1 := Lib.hid (HA1.out.no hk)); (try replace HS1 := Lib.hid (HS1.out.no hk)); (try replace HA2 := Lib.hid (HA2.out.no hk)); (try replace HS2 := Lib.hid (HS2.out.no hk)); (try replace HA3 := Lib.hid (HA3.out.no hk)); (try replace HS3 := Lib.hid (HS3.out.no hk)); (try replace HA4 := Lib.hid (HA4.out.no hk)); (try replace HS4 := Lib.hid (HS4.out.no hk)); (try replace HP := Lib.hid (HP.out.kept hk (fun _ _ _ h => h))); (try replace HQ := Lib.hid (HQ.out.kept hk (fun _ _ _ h => h))); clear hk))
      go_ret
      exact ⟨rfl, HK0.out.trans HK.out (fun _ _ h => h)⟩
end Go.Proofs.Ytbacnkndllifaaa
namespace Go.Proofs.Ytbacnkndllifaaa
open Go.RowKit
set_option linter.unusedVariables false

theorem grR_bad {m s z : Int} {l : List Xt} {bs : List Int} (h : grE m s l z bs ≠ 0) : grR m s l z bs = (0, 0, []) := by
  unfold grE at h
  unfold grR
  by_cases h1 : chk28 m s l = 0
  · rw [if_pos h1] at h
    by_cases h2 : m = 0 ∨ z < s
    · rw [if_neg (fun hh => hh.2 h2)]
    · rw [if_neg h2] at h
      rw [if_pos ⟨h1, h2⟩]
      unfold ofR
      rw [if_neg h]
  · rw [if_neg (fun hh => h1 hh.1)]
/-- What grew is cut to what it was. -/
theorem back28 {m s z : Int} {l : List Xt} {bs : List Int} (hb : ∀ x ∈ bs, -9223372036854775808 ≤ x ∧ x ≤ 9223372036854775807) (h : grE m s l z bs = 0) :
    ∃ E, grR m s l z bs = (m, z, E) ∧ blk E = blk l ++ bs ∧ ctE m z E s = 0 ∧ ctR m z E s = (m, s, l) ∧ ctB m z E s = bs := by
  unfold grE at h
  by_cases h1 : chk28 m s l = 0
  · rw [if_pos h1] at h
    by_cases h2 : m = 0 ∨ z < s
    · rw [if_pos h2] at h; cases h
    · rw [if_neg h2] at h
      obtain ⟨hm0, hm2, hs0, hs5, ⟨hve, hadj, hdis, hlen⟩, hl8⟩ := chk_zero h1
      have hbr : ∀ x ∈ blk l ++ bs, -9223372036854775808 ≤ x ∧ x ≤ 9223372036854775807 := fun x hx => by
        rcases List.mem_append.1 hx with hx | hx
        · unfold blk at hx
          obtain ⟨e, he1, he2⟩ := List.mem_flatMap.1 hx
          have := (eblk_mem (hve e he1)).1 he2
          obtain ⟨_, _, _, _, _⟩ := hve e he1
          omega
        · exact hb x hx
      have hE := blk_exts hbr
      have hr : grR m s l z bs = (m, z, exts (blk l ++ bs)) := by
        unfold grR
        rw [if_pos ⟨h1, h2⟩]
        unfold ofR
        rw [if_pos h]
      have hc : chk28 m z (exts (blk l ++ bs)) = 0 := by
        unfold ofE at h
        by_cases h0 : m = 0
        · exact absurd (.inl h0) h2
        · rwa [if_neg h0] at h
      have hn : (need28 s).toNat = (blk l).length := by omega
      have hok : ctOk m z (exts (blk l ++ bs)) s := ⟨hc, fun h0 => h2 (.inl h0), fun h0 => by rcases h0 with h0 | h0 <;> omega⟩
      have ht : (blk (exts (blk l ++ bs))).take (need28 s).toNat = blk l := by rw [hE, hn, List.take_left']; rfl
      have hd : (blk (exts (blk l ++ bs))).drop (need28 s).toNat = bs := by rw [hE, hn, List.drop_left']; rfl
      have hof : ofE m s (blk l) = 0 := by
        unfold ofE
        rw [if_neg (fun h0 => h2 (.inl h0)), exts_blk hve hadj, h1]
      refine ⟨_, hr, hE, ?_, ?_, ?_⟩
      · rw [hok.err, ht, hof]
      · unfold ctR
        rw [if_pos hok, ht]
        unfold ofR
        rw [if_pos hof, exts_blk hve hadj]
      · unfold ctB
        rw [if_pos hok, hd]
  · rw [if_neg h1] at h; exact absurd h h1
set_option maxRecDepth 100000 in
set_option maxHeartbeats 20000000 in
theorem InodeBack_any (m s z : Int) (u v : Value) (l : List Xt) (bs : List Int) (W : World) (h : XSl W (fun k => k < W.heap.size) u l) (hv : NSl W (fun k => k < W.heap.size) v bs) (h0 : -9223372036854775808 ≤ s) (h1 : s ≤ 9223372036854775807) (z0 : -9223372036854775808 ≤ z) (z1 : z ≤ 9223372036854775807) (hb : ∀ x ∈ bs, -9223372036854775808 ≤ x ∧ x ≤ 9223372036854775807) :
    Calls Try.prog 11 #[iv28 m s u, .int .i64 z, v] W fun e W' => e = .returned (.bool true) ∧ Kept NoB W W' := by
  obtain ⟨a, cap, rfl, _, hcm, _⟩ := id h
  obtain ⟨av, cv, rfl, _, hvm, _⟩ := id hv
  have hk0 := (Kept.refl NoB W).alloc (.cells #[.int .i64 m, .int .i64 s, .slice a l.length cap] 43)
  have HK0 := Lib.hid hk0
  have HX0 := Lib.hid (h.any.no hk0)
  have HN0 := Lib.hid ((hv.mono (G := fun _ => True) (fun _ _ _ => trivial)).kept hk0 (fun _ _ _ h => h))
  have HB0 := Lib.hid (IAt.new 43 W m s (.slice a l.length cap))
  obtain ⟨c0, c1, c2⟩ := HB0.out.cells
  have HAW := Lib.hid awake28_any
  clear h hv hk0
  by_cases hl : 40 < bs.length
  · have d1 : decide ((40 : Int) < (bs.length : Int)) = true := decide_eq_true (by omega)
    have d2 : decide (40 < bs.length) = true := decide_eq_true hl
    clear hl hb
    go_enter Try.func11, Try.ntmps11
    go_wp2_with (go_at_call 30; refine (HAW.out _).mono ?_; rintro e w' ⟨rfl, hk⟩; have HK := Lib.hid (HK0.out.trans hk (fun _ _ h => h)); clear hk)
    go_ret
    exact ⟨rfl, HK.out⟩
  · have d1 : decide ((40 : Int) < (bs.length : Int)) = false := decide_eq_false (by omega)
    have d2 : decide (40 < bs.length) = false := decide_eq_false hl
    by_cases hx : 40 < l.length
    · have d3 : decide ((40 : Int) < (l.length : Int)) = true := decide_eq_true (by omega)
      have d4 : decide (40 < l.length) = true := decide_eq_true hx
      clear hl hx hb
      go_enter Try.func11, Try.ntmps11
      go_wp2_with (go_at_call 30; refine (HAW.out _).mono ?_; rintro e w' ⟨rfl, hk⟩; have HK := Lib.hid (HK0.out.trans hk (fun _ _ h => h)); clear hk)
      go_ret
      exact ⟨rfl, HK.out⟩
    · have d3 : decide ((40 : Int) < (l.length : Int)) = false := decide_eq_false (by omega)
      have d4 : decide (40 < l.length) = false := decide_eq_false hx
      have hl1 : l.length ≤ 1000 := by omega
      have hb5 : bs.length ≤ 500 := by omega
      have HG := Lib.hid (fun x (y : Value) W' (hx : XSl W' (fun _ => True) x l) (hy : NSl W' (fun _ => True) y bs) => iGrow_any m s z x y l bs _ _ W' hx hy hl1 hb5 h0 h1 z0 z1 hb)
      have hg1 := grR_len8 m s l z bs (by omega) (by omega)
      obtain ⟨eg, heg⟩ : ∃ q, q = grE m s l z bs := ⟨_, rfl⟩
      rw [← heg] at HG
      have HK := Lib.hid (Kept.refl NoB (W.alloc (.cells #[.int .i64 m, .int .i64 s, .slice a l.length cap] 43)))
      by_cases he : eg = 0
      · obtain ⟨E, e1, e2, e3, e4, e5⟩ := back28 hb (heg.symm.trans he)
        rw [e1, he] at HG
        rw [e1] at hg1
        simp only at hg1 HG
        have HC := Lib.hid (fun x W' (hx : XSl W' (fun _ => True) x E) => iCut_any m z s x E _ W' hx hg1 z0 z1 h0 h1)
        rw [e3, e4, e5] at HC
        simp only at HC
        have HBL := Lib.hid (fun x W' (hx : XSl W' (fun _ => True) x l) => iBlocks_any m s x l _ W' hx hl1)
        have HBL2 := Lib.hid (fun x W' (hx : XSl W' (fun _ => True) x l) => rBlocks_any m s x l _ W' hx hl1)
        have HBE := Lib.hid (fun x W' (hx : XSl W' (fun _ => True) x E) => iBlocks_any m z x E _ W' hx hg1)
        have hbk := blk_len l
        rw [e2] at HBE
        obtain ⟨B, hB⟩ : ∃ B, B = blk l := ⟨_, rfl⟩
        rw [← hB] at HBL HBL2 HBE hbk
        have hcl : B.length + bs.length ≤ 100000 := by omega
        clear hl hx hb heg he e1 e2 e3 e4 e5 hB hbk
        go_enter Try.func11, Try.ntmps11
        go_wp2_with (first
          | (at_builtin; refine wpList_append_nsl _ rfl (.tmp 48) (.tmp 49) rfl _ (.slice a8 B.length c8) B rfl HO1.out _ (.slice b5 bs.length d5) bs rfl HP5.out hcl HSZb.out ?_; intro a6 e6 w6 hown6 hg6 _; have HALL := Lib.hid (hown6.nslB.mono (G := fun _ => True) (fun _ _ _ => trivial)); (have hk6 := HKb.out.grown hg6 (fun b hb => .inr (World.ownsRow.lt HO1.out b hb).1)); replace HK := Lib.hid (HK.out.trans hk6 (fun _ _ h => h)); (try replace HA1 := Lib.hid (HA1.out.no hk6)); (try replace HS1 := Lib.hid (HS1.out.no hk6)); (try replace HA2 := Lib.hid (HA2.out.no hk6)); (try replace HS2 := Lib.hid (HS2.out.no hk6)); (try replace HA3 := Lib.hid (HA3.out.no hk6)); (try replace HS3 := Lib.hid (HS3.out.no hk6)); (try replace HA4 := Lib.hid (HA4.out.no hk6)); (try replace HS4 := Lib.hid (HS4.out.no hk6)); (try replace HP := Lib.hid (HP.out.kept hk6 (fun _ _ _ h => h))); (try replace HQ := Lib.hid (HQ.out.kept hk6 (fun _ _ _ h => h))); (try clear c0 c1 c2); obtain ⟨c0, c1, c2⟩ := (HB0.out.no HK.out).cells; (try clear p0 p1 p2); (try (obtain ⟨p0, p1, p2⟩ := HA1.out.cells)); (try clear q0 q1 q2); (try (obtain ⟨q0, q1, q2⟩ := HA2.out.cells)); (try clear r0 r1 r2); (try (obtain ⟨r0, r1, r2⟩ := HA3.out.cells)); (try clear t0 t1 t2); (try (obtain ⟨t0, t1, t2⟩ := HA4.out.cells)); clear HO1 HKb HP5 HSZb hown6 hg6 hk6)
          | (go_at_call 32; refine (ours_any m s _ l _ _ (HX0.out.no HK.out) hl1).mono ?_; rintro e w3 ⟨a3, c3, rfl, hx3, hk⟩; replace HK := Lib.hid (HK.out.trans hk (fun _ _ h => h)); (try replace HA1 := Lib.hid (HA1.out.no hk)); (try replace HS1 := Lib.hid (HS1.out.no hk)); (try replace HA2 := Lib.hid (HA2.out.no hk)); (try replace HS2 := Lib.hid (HS2.out.no hk)); (try replace HA3 := Lib.hid (HA3.out.no hk)); (try replace HS3 := Lib.hid (HS3.out.no hk)); (try replace HA4 := Lib.hid (HA4.out.no hk)); (try replace HS4 := Lib.hid (HS4.out.no hk)); (try replace HP := Lib.hid (HP.out.kept hk (fun _ _ _ h => h))); (try replace HQ := Lib.hid (HQ.out.kept hk (fun _ _ _ h => h))); have HY := Lib.hid hx3.any; (try clear c0 c1 c2); obtain ⟨c0, c1, c2⟩ := (HB0.out.no HK.out).cells; (try clear p0 p1 p2); (try (obtain ⟨p0, p1, p2⟩ := HA1.out.cells)); (try clear q0 q1 q2); (try (obtain ⟨q0, q1, q2⟩ := HA2.out.cells)); (try clear r0 r1 r2); (try (obtain ⟨r0, r1, r2⟩ := HA3.out.cells)); (try clear t0 t1 t2); (try (obtain ⟨t0, t1, t2⟩ := HA4.out.cells)); clear hx3 hk)
          | (go_at_call 48; refine (HG.out _ _ _ HY.out (HN0.out.kept HK.out (fun _ _ _ h => h))).mono ?_; rintro e w1x ⟨a1x, c1x, rfl, hx5, hk⟩; (try simp only at hx5); (have hk2 := (Kept.refl NoB w1x).alloc (.cells #[.int .i64 m, .int .i64 z, .slice a1x E.length c1x] 47)); (have hk3 := hk.trans hk2 (fun _ _ h => h)); replace HK := Lib.hid (HK.out.trans hk3 (fun _ _ h => h)); (try replace HA1 := Lib.hid (HA1.out.no hk3)); (try replace HS1 := Lib.hid (HS1.out.no hk3)); (try replace HA2 := Lib.hid (HA2.out.no hk3)); (try replace HS2 := Lib.hid (HS2.out.no hk3)); (try replace HA3 := Lib.hid (HA3.out.no hk3)); (try replace HS3 := Lib.hid (HS3.out.no hk3)); (try replace HA4 := Lib.hid (HA4.out.no hk3)); (try replace HS4 := Lib.hid (HS4.out.no hk3)); (try replace HP := Lib.hid (HP.out.kept hk3 (fun _ _ _ h => h))); (try replace HQ := Lib.hid (HQ.out.kept hk3 (fun _ _ _ h => h))); have HA1 := Lib.hid (IAt.new 47 w1x m z (.slice a1x E.length c1x)); have HS1 := Lib.hid (hx5.any.no hk2); (try clear c0 c1 c2); obtain ⟨c0, c1, c2⟩ := (HB0.out.no HK.out).cells; (try clear p0 p1 p2); (try (obtain ⟨p0, p1, p2⟩ := HA1.out.cells)); (try clear q0 q1 q2); (try (obtain ⟨q0, q1, q2⟩ := HA2.out.cells)); (try clear r0 r1 r2); (try (obtain ⟨r0, r1, r2⟩ := HA3.out.cells)); (try clear t0 t1 t2); (try (obtain ⟨t0, t1, t2⟩ := HA4.out.cells)); clear hx5 hk hk2 hk3; clear HY)
          | (go_at_call 50; refine (HC.out _ _ HS1.out).mono ?_; rintro e w3x ⟨a3x, c3x, b5, d5, rfl, hx5, hy5, hk⟩; (try simp only at hx5); (have hk2 := (Kept.refl NoB w3x).alloc (.cells #[.int .i64 m, .int .i64 s, .slice a3x l.length c3x] 47)); (have hk3 := hk.trans hk2 (fun _ _ h => h)); replace HK := Lib.hid (HK.out.trans hk3 (fun _ _ h => h)); (try replace HA1 := Lib.hid (HA1.out.no hk3)); (try replace HS1 := Lib.hid (HS1.out.no hk3)); (try replace HA2 := Lib.hid (HA2.out.no hk3)); (try replace HS2 := Lib.hid (HS2.out.no hk3)); (try replace HA3 := Lib.hid (HA3.out.no hk3)); (try replace HS3 := Lib.hid (HS3.out.no hk3)); (try replace HA4 := Lib.hid (HA4.out.no hk3)); (try replace HS4 := Lib.hid (HS4.out.no hk3)); (try replace HP := Lib.hid (HP.out.kept hk3 (fun _ _ _ h => h))); (try replace HQ := Lib.hid (HQ.out.kept hk3 (fun _ _ _ h => h))); have HA3 := Lib.hid (IAt.new 47 w3x m s (.slice a3x l.length c3x)); have HS3 := Lib.hid (hx5.any.no hk2); have HP := Lib.hid ((hy5.mono (G := fun _ => True) (fun _ _ _ => trivial)).kept hk2 (fun _ _ _ h => h)); clear hy5; (try clear c0 c1 c2); obtain ⟨c0, c1, c2⟩ := (HB0.out.no HK.out).cells; (try clear p0 p1 p2); (try (obtain ⟨p0, p1, p2⟩ := HA1.out.cells)); (try clear q0 q1 q2); (try (obtain ⟨q0, q1, q2⟩ := HA2.out.cells)); (try clear r0 r1 r2); (try (obtain ⟨r0, r1, r2⟩ := HA3.out.cells)); (try clear t0 t1 t2); (try (obtain ⟨t0, t1, t2⟩ := HA4.out.cells)); clear hx5 hk hk2 hk3)
          | (go_at_call 37; refine (HBL.out _ _ HS3.out).mono ?_; rintro e w5 ⟨a8, c8, rfl, ho, hk⟩; have HO1 := Lib.hid ho; have HKb := Lib.hid hk; have HSZb := Lib.hid hk.size; have HP5 := Lib.hid (HP.out.kept hk (fun _ _ _ h => h)); clear ho hk)
          | (go_at_call 30; refine (HAW.out _).mono ?_; rintro e w5 ⟨rfl, hk⟩; replace HK := Lib.hid (HK.out.trans hk (fun _ _ h => h)); (try replace HA1 := Lib.hid (HA1.out.no hk)); (try replace HS1 := Lib.hid (HS1.out.no hk)); (try replace HA2 := Lib.hid (HA2.out.no hk)); (try replace HS2 := Lib.hid (HS2.out.no hk)); (try replace HA3 := Lib.hid (HA3.out.no hk)); (try replace HS3 := Lib.hid (HS3.out.no hk)); (try replace HA4 := Lib.hid (HA4.out.no hk)); (try replace HS4 := Lib.hid (HS4.out.no hk)); (try replace HP := Lib.hid (HP.out.kept hk (fun _ _ _ h => h))); (try replace HQ := Lib.hid (HQ.out.kept hk (fun _ _ _ h => h))); clear hk))
        have HKc := Lib.hid (Kept.refl NoB w6)
        go_region_held3 (fun w' => w'.cell? ⟨W.heap.size, 0, none⟩ = some (.int .i64 m) ∧ w'.cell? ⟨W.heap.size, 1, none⟩ = some (.int .i64 s) ∧ w'.cell? ⟨W.heap.size, 2, none⟩ = some (.slice a l.length cap) ∧ w'.cell? ⟨w1x.heap.size, 0, none⟩ = some (.int .i64 m) ∧ w'.cell? ⟨w1x.heap.size, 1, none⟩ = some (.int .i64 z) ∧ w'.cell? ⟨w1x.heap.size, 2, none⟩ = some (.slice a1x E.length c1x) ∧ w'.cell? ⟨w3x.heap.size, 0, none⟩ = some (.int .i64 m) ∧ w'.cell? ⟨w3x.heap.size, 1, none⟩ = some (.int .i64 s) ∧ w'.cell? ⟨w3x.heap.size, 2, none⟩ = some (.slice a3x l.length c3x))
          (first
            | exact ⟨cell_drew c0, cell_drew c1, cell_drew c2, cell_drew p0, cell_drew p1, cell_drew p2, cell_drew r0, cell_drew r1, cell_drew r2⟩
            | exact ⟨HKc.out.cell (p := ⟨W.heap.size, 0, none⟩) (fun h => h) c0, HKc.out.cell (p := ⟨W.heap.size, 1, none⟩) (fun h => h) c1, HKc.out.cell (p := ⟨W.heap.size, 2, none⟩) (fun h => h) c2, HKc.out.cell (p := ⟨w1x.heap.size, 0, none⟩) (fun h => h) p0, HKc.out.cell (p := ⟨w1x.heap.size, 1, none⟩) (fun h => h) p1, HKc.out.cell (p := ⟨w1x.heap.size, 2, none⟩) (fun h => h) p2, HKc.out.cell (p := ⟨w3x.heap.size, 0, none⟩) (fun h => h) r0, HKc.out.cell (p := ⟨w3x.heap.size, 1, none⟩) (fun h => h) r1, HKc.out.cell (p := ⟨w3x.heap.size, 2, none⟩) (fun h => h) r2⟩
            | go_keep)
          (first
          | (have hm := HM3; clear hm; go_at_call 37; refine (HBE.out _ _ (HS1.out.no (by first | exact HKc.out | exact HKc.out.drew))).mono ?_; rintro e w8 ⟨a8, c8, rfl, ho, hk⟩; replace HKc := Lib.hid (by first | exact HKc.out.trans hk (fun _ _ h => h) | exact HKc.out.drew.trans hk (fun _ _ h => h)); (first | (replace HN2 := Lib.hid (HN2.out.kept hk (fun _ _ _ h => h))) | (replace HN2 := Lib.hid (HN2.out.kept ((Kept.refl NoB _).drew.trans hk (fun _ _ h => h)) (fun _ _ _ h => h))) | skip); (first | (replace HN3 := Lib.hid (HN3.out.kept hk (fun _ _ _ h => h))) | (replace HN3 := Lib.hid (HN3.out.kept ((Kept.refl NoB _).drew.trans hk (fun _ _ h => h)) (fun _ _ _ h => h))) | skip); (first | (replace HN4 := Lib.hid (HN4.out.kept hk (fun _ _ _ h => h))) | (replace HN4 := Lib.hid (HN4.out.kept ((Kept.refl NoB _).drew.trans hk (fun _ _ h => h)) (fun _ _ _ h => h))) | skip); have HN4 := Lib.hid (by have h := ho.nslB.mono (G := fun _ => True) (fun _ _ _ => trivial); rw [List.length_append] at h; exact h); clear ho hk)
          | (go_at_call 37; refine (HBL.out _ _ (HS3.out.no (by first | exact HKc.out | exact HKc.out.drew))).mono ?_; rintro e w8 ⟨a8, c8, rfl, ho, hk⟩; replace HKc := Lib.hid (by first | exact HKc.out.trans hk (fun _ _ h => h) | exact HKc.out.drew.trans hk (fun _ _ h => h)); (first | (replace HN2 := Lib.hid (HN2.out.kept hk (fun _ _ _ h => h))) | (replace HN2 := Lib.hid (HN2.out.kept ((Kept.refl NoB _).drew.trans hk (fun _ _ h => h)) (fun _ _ _ h => h))) | skip); (first | (replace HN3 := Lib.hid (HN3.out.kept hk (fun _ _ _ h => h))) | (replace HN3 := Lib.hid (HN3.out.kept ((Kept.refl NoB _).drew.trans hk (fun _ _ h => h)) (fun _ _ _ h => h))) | skip); (first | (replace HN4 := Lib.hid (HN4.out.kept hk (fun _ _ _ h => h))) | (replace HN4 := Lib.hid (HN4.out.kept ((Kept.refl NoB _).drew.trans hk (fun _ _ h => h)) (fun _ _ _ h => h))) | skip); have HN2 := Lib.hid (ho.nslB.mono (G := fun _ => True) (fun _ _ _ => trivial)); clear ho hk)
          | (go_at_call 38; refine (HBL2.out _ _ ((HX0.out.no HK.out).no (by first | exact HKc.out | exact HKc.out.drew))).mono ?_; rintro e w8 ⟨a8, c8, rfl, ho, hk⟩; replace HKc := Lib.hid (by first | exact HKc.out.trans hk (fun _ _ h => h) | exact HKc.out.drew.trans hk (fun _ _ h => h)); (first | (replace HN2 := Lib.hid (HN2.out.kept hk (fun _ _ _ h => h))) | (replace HN2 := Lib.hid (HN2.out.kept ((Kept.refl NoB _).drew.trans hk (fun _ _ h => h)) (fun _ _ _ h => h))) | skip); (first | (replace HN3 := Lib.hid (HN3.out.kept hk (fun _ _ _ h => h))) | (replace HN3 := Lib.hid (HN3.out.kept ((Kept.refl NoB _).drew.trans hk (fun _ _ h => h)) (fun _ _ _ h => h))) | skip); (first | (replace HN4 := Lib.hid (HN4.out.kept hk (fun _ _ _ h => h))) | (replace HN4 := Lib.hid (HN4.out.kept ((Kept.refl NoB _).drew.trans hk (fun _ _ h => h)) (fun _ _ _ h => h))) | skip); have HN3 := Lib.hid (ho.nslB.mono (G := fun _ => True) (fun _ _ _ => trivial)); clear ho hk)
          | (have hm := HN4; clear hm; go_at_call 24; refine (SameN_any _ _ (B ++ bs) (B ++ bs) _ _ _ (HALL.out.kept (S := NoB) (by first | exact HKc.out | exact HKc.out.drew) (fun _ _ _ h => h)) (by first | exact HN4.out | exact HN4.out.kept (S := NoB) (Kept.refl NoB _).drew (fun _ _ _ h => h))).mono ?_; rw [decide_eq_true rfl]; rintro e w8 ⟨rfl, hk⟩; replace HKc := Lib.hid (by first | exact HKc.out.trans hk (fun _ _ h => h) | exact HKc.out.drew.trans hk (fun _ _ h => h)); (first | (replace HN2 := Lib.hid (HN2.out.kept hk (fun _ _ _ h => h))) | (replace HN2 := Lib.hid (HN2.out.kept ((Kept.refl NoB _).drew.trans hk (fun _ _ h => h)) (fun _ _ _ h => h))) | skip); (first | (replace HN3 := Lib.hid (HN3.out.kept hk (fun _ _ _ h => h))) | (replace HN3 := Lib.hid (HN3.out.kept ((Kept.refl NoB _).drew.trans hk (fun _ _ h => h)) (fun _ _ _ h => h))) | skip); (first | (replace HN4 := Lib.hid (HN4.out.kept hk (fun _ _ _ h => h))) | (replace HN4 := Lib.hid (HN4.out.kept ((Kept.refl NoB _).drew.trans hk (fun _ _ h => h)) (fun _ _ _ h => h))) | skip); clear HN4; clear hk)
          | (have hm := HN3; clear hm; go_at_call 24; refine (SameN_any _ _ B B _ _ _ (by first | exact HN2.out | exact HN2.out.kept (S := NoB) (Kept.refl NoB _).drew (fun _ _ _ h => h)) (by first | exact HN3.out | exact HN3.out.kept (S := NoB) (Kept.refl NoB _).drew (fun _ _ _ h => h))).mono ?_; rw [decide_eq_true rfl]; rintro e w8 ⟨rfl, hk⟩; replace HKc := Lib.hid (by first | exact HKc.out.trans hk (fun _ _ h => h) | exact HKc.out.drew.trans hk (fun _ _ h => h)); (first | (replace HN2 := Lib.hid (HN2.out.kept hk (fun _ _ _ h => h))) | (replace HN2 := Lib.hid (HN2.out.kept ((Kept.refl NoB _).drew.trans hk (fun _ _ h => h)) (fun _ _ _ h => h))) | skip); (first | (replace HN3 := Lib.hid (HN3.out.kept hk (fun _ _ _ h => h))) | (replace HN3 := Lib.hid (HN3.out.kept ((Kept.refl NoB _).drew.trans hk (fun _ _ h => h)) (fun _ _ _ h => h))) | skip); (first | (replace HN4 := Lib.hid (HN4.out.kept hk (fun _ _ _ h => h))) | (replace HN4 := Lib.hid (HN4.out.kept ((Kept.refl NoB _).drew.trans hk (fun _ _ h => h)) (fun _ _ _ h => h))) | skip); clear HN2 HN3; have HM3 := Lib.hid trivial; clear hk)
          | (have hm := HM3; clear hm; go_at_call 24; refine (SameN_any _ _ bs bs _ _ _ (HP.out.kept (S := NoB) (by first | exact HKc.out | exact HKc.out.drew) (fun _ _ _ h => h)) ((HN0.out.kept HK.out (fun _ _ _ h => h)).kept (S := NoB) (by first | exact HKc.out | exact HKc.out.drew) (fun _ _ _ h => h))).mono ?_; rw [decide_eq_true rfl]; rintro e w8 ⟨rfl, hk⟩; replace HKc := Lib.hid (by first | exact HKc.out.trans hk (fun _ _ h => h) | exact HKc.out.drew.trans hk (fun _ _ h => h)); (first | (replace HN2 := Lib.hid (HN2.out.kept hk (fun _ _ _ h => h))) | (replace HN2 := Lib.hid (HN2.out.kept ((Kept.refl NoB _).drew.trans hk (fun _ _ h => h)) (fun _ _ _ h => h))) | skip); (first | (replace HN3 := Lib.hid (HN3.out.kept hk (fun _ _ _ h => h))) | (replace HN3 := Lib.hid (HN3.out.kept ((Kept.refl NoB _).drew.trans hk (fun _ _ h => h)) (fun _ _ _ h => h))) | skip); (first | (replace HN4 := Lib.hid (HN4.out.kept hk (fun _ _ _ h => h))) | (replace HN4 := Lib.hid (HN4.out.kept ((Kept.refl NoB _).drew.trans hk (fun _ _ h => h)) (fun _ _ _ h => h))) | skip); clear hk)
          | (go_at_call 30; refine (HAW.out _).mono ?_; rintro e w8 ⟨rfl, hk⟩; replace HKc := Lib.hid (by first | exact HKc.out.trans hk (fun _ _ h => h) | exact HKc.out.drew.trans hk (fun _ _ h => h)); (first | (replace HN2 := Lib.hid (HN2.out.kept hk (fun _ _ _ h => h))) | (replace HN2 := Lib.hid (HN2.out.kept ((Kept.refl NoB _).drew.trans hk (fun _ _ h => h)) (fun _ _ _ h => h))) | skip); (first | (replace HN3 := Lib.hid (HN3.out.kept hk (fun _ _ _ h => h))) | (replace HN3 := Lib.hid (HN3.out.kept ((Kept.refl NoB _).drew.trans hk (fun _ _ h => h)) (fun _ _ _ h => h))) | skip); (first | (replace HN4 := Lib.hid (HN4.out.kept hk (fun _ _ _ h => h))) | (replace HN4 := Lib.hid (HN4.out.kept ((Kept.refl NoB _).drew.trans hk (fun _ _ h => h)) (fun _ _ _ h => h))) | skip); clear hk))
        all_goals
          go_wp2
          go_ret
          exact ⟨rfl, HK0.out.trans (HK.out.trans HKc.out (fun _ _ h => h)) (fun _ _ h => h)⟩
      · have hr := grR_bad (fun h => he (heg.trans h))
        rw [hr] at HG
        simp only at HG
        have hne : (eg != 0) = true := bne_iff_ne.2 he
        clear hl hx hb heg he hr hg1
        go_enter Try.func11, Try.ntmps11
        go_wp2_with (first
          | (go_at_call 32; refine (ours_any m s _ l _ _ (HX0.out.no HK.out) hl1).mono ?_; rintro e w3 ⟨a3, c3, rfl, hx3, hk⟩; replace HK := Lib.hid (HK.out.trans hk (fun _ _ h => h)); (try replace HA1 := Lib.hid (HA1.out.no hk)); (try replace HS1 := Lib.hid (HS1.out.no hk)); (try replace HA2 := Lib.hid (HA2.out.no hk)); (try replace HS2 := Lib.hid (HS2.out.no hk)); (try replace HA3 := Lib.hid (HA3.out.no hk)); (try replace HS3 := Lib.hid (HS3.out.no hk)); (try replace HA4 := Lib.hid (HA4.out.no hk)); (try replace HS4 := Lib.hid (HS4.out.no hk)); (try replace HP := Lib.hid (HP.out.kept hk (fun _ _ _ h => h))); (try replace HQ := Lib.hid (HQ.out.kept hk (fun _ _ _ h => h))); have HY := Lib.hid hx3.any; (try clear c0 c1 c2); obtain ⟨c0, c1, c2⟩ := (HB0.out.no HK.out).cells; (try clear p0 p1 p2); (try (obtain ⟨p0, p1, p2⟩ := HA1.out.cells)); (try clear q0 q1 q2); (try (obtain ⟨q0, q1, q2⟩ := HA2.out.cells)); (try clear r0 r1 r2); (try (obtain ⟨r0, r1, r2⟩ := HA3.out.cells)); (try clear t0 t1 t2); (try (obtain ⟨t0, t1, t2⟩ := HA4.out.cells)); clear hx3 hk)
          | (go_at_call 48; refine (HG.out _ _ _ HY.out (HN0.out.kept HK.out (fun _ _ _ h => h))).mono ?_; rintro e w1x ⟨a1x, c1x, rfl, hx5, hk⟩; (try simp only at hx5); (have hk2 := (Kept.refl NoB w1x).alloc (.cells #[.int .i64 0, .int .i64 0, .slice a1x ([] : List Xt).length c1x] 47)); (have hk3 := hk.trans hk2 (fun _ _ h => h)); replace HK := Lib.hid (HK.out.trans hk3 (fun _ _ h => h)); (try replace HA1 := Lib.hid (HA1.out.no hk3)); (try replace HS1 := Lib.hid (HS1.out.no hk3)); (try replace HA2 := Lib.hid (HA2.out.no hk3)); (try replace HS2 := Lib.hid (HS2.out.no hk3)); (try replace HA3 := Lib.hid (HA3.out.no hk3)); (try replace HS3 := Lib.hid (HS3.out.no hk3)); (try replace HA4 := Lib.hid (HA4.out.no hk3)); (try replace HS4 := Lib.hid (HS4.out.no hk3)); (try replace HP := Lib.hid (HP.out.kept hk3 (fun _ _ _ h => h))); (try replace HQ := Lib.hid (HQ.out.kept hk3 (fun _ _ _ h => h))); have HA1 := Lib.hid (IAt.new 47 w1x 0 0 (.slice a1x ([] : List Xt).length c1x)); have HS1 := Lib.hid (hx5.any.no hk2); (try clear c0 c1 c2); obtain ⟨c0, c1, c2⟩ := (HB0.out.no HK.out).cells; (try clear p0 p1 p2); (try (obtain ⟨p0, p1, p2⟩ := HA1.out.cells)); (try clear q0 q1 q2); (try (obtain ⟨q0, q1, q2⟩ := HA2.out.cells)); (try clear r0 r1 r2); (try (obtain ⟨r0, r1, r2⟩ := HA3.out.cells)); (try clear t0 t1 t2); (try (obtain ⟨t0, t1, t2⟩ := HA4.out.cells)); clear hx5 hk hk2 hk3; clear HY)
          | (go_at_call 41; refine (like_true 0 0 _ _ [] _ _ _ HS1.out (XSl.nil _ (fun _ => True)) (by simp)).mono ?_; rintro e w5 ⟨rfl, hk⟩; replace HK := Lib.hid (HK.out.trans hk (fun _ _ h => h)); (try replace HA1 := Lib.hid (HA1.out.no hk)); (try replace HS1 := Lib.hid (HS1.out.no hk)); (try replace HA2 := Lib.hid (HA2.out.no hk)); (try replace HS2 := Lib.hid (HS2.out.no hk)); (try replace HA3 := Lib.hid (HA3.out.no hk)); (try replace HS3 := Lib.hid (HS3.out.no hk)); (try replace HA4 := Lib.hid (HA4.out.no hk)); (try replace HS4 := Lib.hid (HS4.out.no hk)); (try replace HP := Lib.hid (HP.out.kept hk (fun _ _ _ h => h))); (try replace HQ := Lib.hid (HQ.out.kept hk (fun _ _ _ h => h))); (try clear c0 c1 c2); obtain ⟨c0, c1, c2⟩ := (HB0.out.no HK.out).cells; (try clear p0 p1 p2); (try (obtain ⟨p0, p1, p2⟩ := HA1.out.cells)); (try clear q0 q1 q2); (try (obtain ⟨q0, q1, q2⟩ := HA2.out.cells)); (try clear r0 r1 r2); (try (obtain ⟨r0, r1, r2⟩ := HA3.out.cells)); (try clear t0 t1 t2); (try (obtain ⟨t0, t1, t2⟩ := HA4.out.cells)); clear hk)
          | (go_at_call 30; refine (HAW.out _).mono ?_; rintro e w5 ⟨rfl, hk⟩; replace HK := Lib.hid (HK.out.trans hk (fun _ _ h => h)); (try replace HA1 := Lib.hid (HA1.out.no hk)); (try replace HS1 := Lib.hid (HS1.out.no hk)); (try replace HA2 := Lib.hid (HA2.out.no hk)); (try replace HS2 := Lib.hid (HS2.out.no hk)); (try replace HA3 := Lib.hid (HA3.out.no hk)); (try replace HS3 := Lib.hid (HS3.out.no hk)); (try replace HA4 := Lib.hid (HA4.out.no hk)); (try replace HS4 := Lib.hid (HS4.out.no hk)); (try replace HP := Lib.hid (HP.out.kept hk (fun _ _ _ h => h))); (try replace HQ := Lib.hid (HQ.out.kept hk (fun _ _ _ h => h))); clear hk))
        go_ret
        exact ⟨rfl, HK0.out.trans HK.out (fun _ _ h => h)⟩
end Go.Proofs.Ytbacnkndllifaaa
