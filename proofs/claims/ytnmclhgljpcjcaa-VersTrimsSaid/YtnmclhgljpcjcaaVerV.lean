/-
  The walk of VersOwn.
-/
import Derived.Test.YtnmclhgljpcjcaaVerU
namespace Go.Proofs.Ytnmclhgljpcjcaa
open Go.RowKit
set_option linter.unusedVariables false
set_option linter.unusedSimpArgs false

/-- The field of a version that is told. -/
theorem fld15_d (a b : Int) (u : Value) (w : World) : (Instr.field 43 (.agg #[.int .u64 a, .int .u64 b, u]) 2).run Try.prog w = .ok u w := by kernel_rfl
/-- What Last, Clean and Pick tell: data of the call's own. -/
def TellO (x0 x1 : Int) (x2 : List Int) (w : World) (e : Ending) (w' : World) : Prop := ∃ u c, e = .returned (.agg #[.int .u64 x0, .int .u64 x1, .slice u x2.length c]) ∧ Own w' (fun k => w.heap.size ≤ k) (.slice u x2.length c) x2 ∧ Kept NoB w w'
theorem TellO.of {w w' : World} {e : Ending} {x0 x1 : Int} {x2 : List Int} (h : ∃ v', e = .returned v' ∧ VnO w' (fun k => w.heap.size < k) v' ⟨x0, x1, x2⟩ ∧ Kept NoB w w') : TellO x0 x1 x2 w e w' := by
  obtain ⟨v', rfl, hv, hk⟩ := h
  obtain ⟨u, rfl, hu⟩ := hv
  have hu' := hu
  obtain ⟨ua, uc, rfl⟩ := own_form hu.2.1
  exact ⟨ua, uc, rfl, hu'.mono (fun _ _ h => Nat.le_of_lt h), hk⟩
/-- A block of one version, whatever is written elsewhere. -/
structure OwSt (w : World) (g : Nat) (G : Nat → Prop) (x : Vn) (wr : World) : Prop where
  bk : BkAt wr g G [x]
  gb : ∀ i, G i → w.heap.size ≤ i ∧ i < wr.heap.size
  kp : Kept NoB w wr
theorem OwSt.no {w wr w' : World} {g : Nat} {G : Nat → Prop} {x : Vn} (h : OwSt w g G x wr) (hk : Kept NoB wr w') : OwSt w g G x w' :=
  ⟨h.bk.no hk, fun i hi => ⟨(h.gb i hi).1, Nat.lt_of_lt_of_le (h.gb i hi).2 hk.size⟩, h.kp.trans hk (fun _ _ h => h)⟩
theorem OwSt.spoil {w wr w1 w2 : World} {g : Nat} {G F : Nat → Prop} {x : Vn} (h : OwSt w g G x wr) (hk1 : Kept NoB wr w1) (hF : ∀ k, F k → wr.heap.size ≤ k) (hk2 : Kept F w1 w2) : OwSt w g G x w2 := by
  have h1 := h.no hk1
  have hs := h.kp.size
  refine ⟨h1.bk.kept hk2 (fun k hg hf => by have := (h.gb k hg).2; have := hF k hf; omega), fun i hi => ⟨(h1.gb i hi).1, Nat.lt_of_lt_of_le (h1.gb i hi).2 hk2.size⟩, h1.kp.trans hk2 (fun i hi hf => by have := hF i hf; omega)⟩
theorem Own.only15 {w : World} {F : Nat → Prop} {v : Value} {l : List Int} (h : Own w F v l) : Own w (fun k => v.ownBlock = some k) v l := ⟨h.1, h.2.1, fun _ hk => hk⟩
theorem own_lt15 {w : World} {F : Nat → Prop} {v : Value} {l : List Int} (h : Own w F v l) {k : Nat} (hk : v.ownBlock = some k) : k < w.heap.size := by
  rcases h.2.1.2 with ⟨rfl, _⟩ | ⟨r, cap, cur, rfl, _, hr, _⟩
  · cases hk
  · injection hk with hk
    subst hk
    exact heap_lt hr
def OwRel (W : World) (F : Nat → Prop) (iv : Value) (wr : World) : Prop := ∃ k : Nat, k ≤ 1 ∧ iv = .int .i64 k ∧ (k = 0 → Kept NoB W wr) ∧ Kept F W wr
set_option maxRecDepth 100000 in
set_option maxHeartbeats 4000000 in
theorem VersOwn_any (w : World) (v u : Value) (x y : Vn) (hv : VnV w (fun k => k < w.heap.size) v x) (hfx : FitV x) (hu : VnV w (fun k => k < w.heap.size) u y) : Calls Try.prog 6 #[v, u] w fun e w' => e = .returned (.bool true) ∧ Kept NoB w w' := by
  obtain ⟨i0, hi0, hz0, hz1, hz2⟩ := info_parts Try.info5
  obtain ⟨xd, rfl, hb⟩ := hv
  obtain ⟨yd, rfl, hc⟩ := hu
  obtain ⟨x0, x1, x2⟩ := x
  obtain ⟨y0, y1, y2⟩ := y
  simp only at hb hc ⊢
  have HB := Lib.hid hb
  have HC := Lib.hid hc
  have HFX := Lib.hid hfx
  obtain ⟨xa, xc, rfl, hxc, hxm, _⟩ := hb
  obtain ⟨ya, yc, rfl, _⟩ := hc
  unfold maxLen at hxm
  have h1 := heap_alloc_new w (.cells #[.int .u64 x0, .int .u64 x1, .slice xa x2.length xc] 36)
  have h1' := blkV_alloc h1 (.cells #[.int .u64 y0, .int .u64 y1, .slice ya y2.length yc] 36)
  have h2 := heap_alloc_new (w.alloc (.cells #[.int .u64 x0, .int .u64 x1, .slice xa x2.length xc] 36)) (.cells #[.int .u64 y0, .int .u64 y1, .slice ya y2.length yc] 36)
  rw [show (w.alloc (.cells #[.int .u64 x0, .int .u64 x1, .slice xa x2.length xc] 36)).heap.size = w.heap.size + 1 by simp] at h2
  have hkW := ((Kept.refl NoB w).alloc (.cells #[.int .u64 x0, .int .u64 x1, .slice xa x2.length xc] 36)).alloc (.cells #[.int .u64 y0, .int .u64 y1, .slice ya y2.length yc] 36)
  obtain ⟨W, hW⟩ : ∃ W, W = (w.alloc (.cells #[.int .u64 x0, .int .u64 x1, .slice xa x2.length xc] 36)).alloc (.cells #[.int .u64 y0, .int .u64 y1, .slice ya y2.length yc] 36) := ⟨_, rfl⟩
  rw [← hW] at h1' h2 hkW
  have HW := Lib.hid hW
  have HKW := Lib.hid hkW
  have HBX := Lib.hid h1'
  have HBY := Lib.hid h2
  have HX := Lib.hid (show VnV W (fun k => k < w.heap.size) (.agg #[.int .u64 x0, .int .u64 x1, .slice xa x2.length xc]) ⟨x0, x1, x2⟩ from ⟨_, rfl, HB.out.kept HKW.out (fun _ _ h => h)⟩)
  have HY := Lib.hid (show VnV W (fun k => k < w.heap.size) (.agg #[.int .u64 y0, .int .u64 y1, .slice ya y2.length yc]) ⟨y0, y1, y2⟩ from ⟨_, rfl, HC.out.kept HKW.out (fun _ _ h => h)⟩)
  obtain ⟨bs, hbs⟩ : ∃ b, b = sameVB ⟨x0, x1, x2⟩ ⟨y0, y1, y2⟩ := ⟨_, rfl⟩
  have HOX := Lib.hid (fun w' (hk : Kept NoB W w') => ours15 w' _ _ _ (HX.out.no hk))
  have HOY := Lib.hid (fun w' (hk : Kept NoB W w') => ours15 w' _ _ _ (HY.out.no hk))
  have HSA := Lib.hid (fun w' (hk : Kept NoB W w') => (VSame_any w' _ _ _ _ _ _ (HX.out.no hk) (HY.out.no hk)).mono fun e w'' h => show e = .returned (.bool bs) ∧ Kept NoB w' w'' from ⟨by rw [hbs]; exact h.1, h.2⟩)
  have HSR := Lib.hid (fun w' (hk : Kept NoB W w') => (RSame15 w' _ _ _ _ _ _ (HX.out.no hk) (HY.out.no hk)).mono fun e w'' h => show e = .returned (.bool bs) ∧ Kept NoB w' w'' from ⟨by rw [hbs]; exact h.1, h.2⟩)
  have HAW := Lib.hid (fun w' => awake15 w')
  have hbb : (bs == bs) = true := by simp
  have HTEN : Hid (∀ w', Kept NoB W w' → w'.cell? ⟨w.heap.size, 0, none⟩ = some (.int .u64 x0) ∧ w'.cell? ⟨w.heap.size, 1, none⟩ = some (.int .u64 x1) ∧ w'.cell? ⟨w.heap.size, 2, none⟩ = some (.slice xa x2.length xc) ∧ w'.cell? ⟨w.heap.size + 1, 0, none⟩ = some (.int .u64 y0) ∧ w'.cell? ⟨w.heap.size + 1, 1, none⟩ = some (.int .u64 y1) ∧ w'.cell? ⟨w.heap.size + 1, 2, none⟩ = some (.slice ya y2.length yc)) := Lib.hid (fun w' hk => by
    have hx := cells3v (hk.heap (fun h => h) HBX.out)
    have hy := cells3v (hk.heap (fun h => h) HBY.out)
    exact ⟨hx.1, hx.2.1, hx.2.2, hy⟩)
  obtain ⟨c0, c1, c2⟩ := cells3v h1'
  clear h1 h1' h2 hkW hW hbs hfx
  by_cases hbad : 2048 < x2.length ∨ x0 = 0 ∨ x1 = 0
  · obtain ⟨b0, hb0⟩ : ∃ b, b = decide ((2048 : Int) < (x2.length : Int)) := ⟨_, rfl⟩
    have hg : decide ((2048 : Int) < (x2.length : Int)) = true ∨ (decide ((2048 : Int) < (x2.length : Int)) = false ∧ ((x0 == 0) = true ∨ ((x0 == 0) = false ∧ (x1 == 0) = true))) := by
      by_cases h1 : 2048 < x2.length
      · exact .inl (decide_eq_true (by omega))
      · refine .inr ⟨decide_eq_false (by omega), ?_⟩
        by_cases h2 : x0 = 0
        · exact .inl (by simpa using h2)
        · exact .inr ⟨by simpa using h2, by simp; omega⟩
    clear hb0 hbad
    go_enter Try.func6, Try.ntmps6
    rcases hg with g1 | ⟨g1, g2 | ⟨g2, g3⟩⟩
    all_goals
      go_wp2_with fail
      rw [← HW.out]
      go_wp2_with fail
      have HKe := Lib.hid (Kept.refl NoB W).drew
      have HT := Lib.hid (HTEN.out _ HKe.out)
      clear c0 c1 c2
      go_region_held3 (fun w' => w'.cell? ⟨w.heap.size, 0, none⟩ = some (.int .u64 x0) ∧ w'.cell? ⟨w.heap.size, 1, none⟩ = some (.int .u64 x1) ∧ w'.cell? ⟨w.heap.size, 2, none⟩ = some (.slice xa x2.length xc) ∧ w'.cell? ⟨w.heap.size + 1, 0, none⟩ = some (.int .u64 y0) ∧ w'.cell? ⟨w.heap.size + 1, 1, none⟩ = some (.int .u64 y1) ∧ w'.cell? ⟨w.heap.size + 1, 2, none⟩ = some (.slice ya y2.length yc))
        (with_reducible exact HT.out)
        (first
          | (go_at_call 20; (first | (with_reducible refine (HOX.out _ HKe.out).mono ?_) | (with_reducible refine (HOY.out _ HKe.out).mono ?_)); rintro e w1 ⟨rfl, hk1⟩; replace HKe := Lib.hid (HKe.out.trans hk1 (fun _ _ h => h)); replace HT := Lib.hid (HTEN.out _ HKe.out); clear hk1)
          | (go_at_call 35; (with_reducible refine (HSA.out _ HKe.out).mono ?_); rintro e w1 ⟨rfl, hk1⟩; replace HKe := Lib.hid (HKe.out.trans hk1 (fun _ _ h => h)); replace HT := Lib.hid (HTEN.out _ HKe.out); clear hk1)
          | (go_at_call 36; (with_reducible refine (HSR.out _ HKe.out).mono ?_); rintro e w1 ⟨rfl, hk1⟩; replace HKe := Lib.hid (HKe.out.trans hk1 (fun _ _ h => h)); replace HT := Lib.hid (HTEN.out _ HKe.out); clear hk1)
          | (go_at_call 17; (with_reducible refine (HAW.out _).mono ?_); rintro e w1 ⟨rfl, hk1⟩; replace HKe := Lib.hid (HKe.out.trans hk1 (fun _ _ h => h)); replace HT := Lib.hid (HTEN.out _ HKe.out); clear hk1))
      go_wp2
      go_ret
      exact ⟨rfl, HKW.out.trans HKe.out (fun _ _ h => h)⟩
  · have g1 : decide ((2048 : Int) < (x2.length : Int)) = false := decide_eq_false (by omega)
    have g2 : (x0 == 0) = false := by simp; omega
    have g3 : (x1 == 0) = false := by simp; omega
    have hxl : x2.length ≤ 2048 := by omega
    have HPX : Hid (putXV [] ⟨x0, x1, x2⟩ = 0) := Lib.hid (by unfold putXV; rw [if_neg (by show ¬ 2048 < x2.length; omega), if_neg (by show ¬ (x0 = 0 ∨ x1 = 0); omega), if_neg (by simp)])
    clear hbad
    go_enter Try.func6, Try.ntmps6
    go_upto_region 3 with fail
    rw [← HW.out]
    go_wp2_with (at_builtin; refine wpList_append_bsl _ rfl (.const (.slice none 0 0)) (.tmp 37) _ rfl 5 i0 _ Try.underlying34 hi0 hz0 hz1 hz2 rfl (.slice none 0 0) 0 [] rfl (World.ownsRow_nil _ _ _ _) (fun k => k < w.heap.size) _ x2 rfl (HB.out.kept HKW.out (fun _ _ h => h)) (by omega) ?_; intro a1 n1 w1 hown1 hg1 hat1)
    simp only [Nat.zero_add, List.nil_append] at hown1 hat1
    have hk1 : Kept NoB W w1 := (Kept.refl NoB W).grown hg1 (fun k hk => by cases hk)
    have HO1 : Hid (Own w1 (fun k => W.heap.size ≤ k) (.slice a1 x2.length n1) x2) := Lib.hid ⟨HB.out.isB, hown1, fun k hk => by
      rcases hat1 with e | e <;> rw [e] at hk
      · cases hk
      · injection hk with hk; omega⟩
    have HK1 := Lib.hid hk1
    clear hown1 hg1 hat1 hk1 c0 c1 c2
    refine (VNew_any w1).mono ?_
    rintro e w2 ⟨rfl, hb2, hk2⟩
    have HB2 := Lib.hid hb2
    have HK2 := Lib.hid (HK1.out.trans hk2 (fun _ _ h => h))
    have HO2 := Lib.hid (HO1.out.kept hk2 (fun _ _ h => h))
    have HS2 := Lib.hid (show w1.heap.size < w2.heap.size from hb2.lt.1)
    have HO1S := Lib.hid (fun k (hk : (Value.slice a1 x2.length n1).ownBlock = some k) => (own_lt15 HO1.out hk : k < w1.heap.size))
    have HSW1 := Lib.hid HK1.out.size
    clear hb2 hk2
    obtain ⟨c0, c1, c2, _⟩ := HTEN.out _ HK2.out
    go_wp2_with fail
    refine (VPut_any w2 w1.heap.size (fun k => k = w1.heap.size) (fun k => W.heap.size ≤ k) [] _ ⟨x0, x1, x2⟩ HB2.out ⟨_, rfl, HO2.out.bsl⟩ HFX.out (by decide) (by show x2.length ≤ 1000000; omega)).mono ?_
    rintro e w3 ⟨rfl, hb3, hk3⟩
    rw [HPX.out]
    have hL : putLV [] ⟨x0, x1, x2⟩ = [⟨x0, x1, x2⟩] := by unfold putLV; rw [HPX.out]; rfl
    rw [hL] at hb3
    have HSZW : Hid (w.heap.size + 2 = W.heap.size) := Lib.hid (by rw [HW.out]; simp)
    have HST3 : Hid (OwSt W w1.heap.size (fun k => (k = w1.heap.size ∨ w2.heap.size ≤ k) ∧ k < w3.heap.size) ⟨x0, x1, x2⟩ w3) := Lib.hid
      ⟨hb3.mono (fun k hk h => ⟨h, hk⟩), fun i hi => ⟨by have := HSW1.out; have := HS2.out; omega, hi.2⟩, HK2.out.trans hk3 (fun i hi h => by have := HSW1.out; omega)⟩
    have HO3 := Lib.hid (HO2.out.only15.kept hk3 (fun k hk h => by have := HO1S.out k hk; omega))
    have HXB3 := Lib.hid (HST3.out.kp.heap (fun h => h) HBX.out)
    have HYB3 := Lib.hid (HST3.out.kp.heap (fun h => h) HBY.out)
    clear hb3 hk3 hL c0 c1 c2
    go_wp2_with fail
    refine (spoil15 w3 _ _ x2 HO3.out (by omega)).mono ?_
    rintro e w4 ⟨rfl, hk4⟩
    have HST4 : Hid (OwSt W w1.heap.size (fun k => (k = w1.heap.size ∨ w2.heap.size ≤ k) ∧ k < w3.heap.size) ⟨x0, x1, x2⟩ w4) := Lib.hid
      ⟨HST3.out.bk.kept hk4 (fun k hk h => by have := HO1S.out k h; have := HS2.out; omega), fun i hi => ⟨(HST3.out.gb i hi).1, Nat.lt_of_lt_of_le hi.2 hk4.size⟩, HST3.out.kp.trans hk4 (fun i hi h => by have := HO2.out.2.2 i h; omega)⟩
    have HXB4 := Lib.hid (HST4.out.kp.heap (fun h => h) HBX.out)
    have HYB4 := Lib.hid (HST4.out.kp.heap (fun h => h) HBY.out)
    have HASC : Hid (Asc [⟨x0, x1, x2⟩]) := Lib.hid HST4.out.bk.asc
    have HLA : Hid (lastV [⟨x0, x1, x2⟩] = ⟨x0, x1, x2⟩) := Lib.hid rfl
    have HCN : Hid (cnt [⟨x0, x1, x2⟩] x1 = 1) := Lib.hid (by unfold cnt; simp)
    have HCL : Hid (cleanV [⟨x0, x1, x2⟩] x1 = ⟨x0, x1, x2⟩) := Lib.hid (by unfold cleanV; rw [HCN.out]; rfl)
    have HPK : Hid (pickV [⟨x0, x1, x2⟩] x0 0 = ⟨x0, x1, x2⟩) := Lib.hid (by unfold pickV findV; simp)
    have HTE : Hid (∀ w', OwSt W w1.heap.size (fun k => (k = w1.heap.size ∨ w2.heap.size ≤ k) ∧ k < w3.heap.size) ⟨x0, x1, x2⟩ w' → ∃ v, TellsV w' (.pointer (some ⟨w1.heap.size, 0, none⟩)) v ∧ VsAt w' (fun k => (k = w1.heap.size ∨ w2.heap.size ≤ k) ∧ k < w3.heap.size) v [⟨x0, x1, x2⟩]) := Lib.hid (fun w' h => by
      obtain ⟨a, c, h1, h2⟩ := h.bk.vs
      exact ⟨_, TellsV.of h1, h2⟩)
    have HLAST : Hid (∀ w', OwSt W w1.heap.size (fun k => (k = w1.heap.size ∨ w2.heap.size ≤ k) ∧ k < w3.heap.size) ⟨x0, x1, x2⟩ w' → Calls Try.prog 27 #[.pointer (some ⟨w1.heap.size, 0, none⟩)] w' (TellO x0 x1 x2 w')) := Lib.hid (fun w' h => by
      obtain ⟨v, h1, h2⟩ := HTE.out w' h
      exact (VLast_any w' _ v _ _ h1 h2 (by rw [HLA.out]; show x2.length ≤ 1000000; omega)).mono fun e w'' hh => TellO.of (by rw [HLA.out] at hh; exact hh))
    have HCLEAN : Hid (∀ w', OwSt W w1.heap.size (fun k => (k = w1.heap.size ∨ w2.heap.size ≤ k) ∧ k < w3.heap.size) ⟨x0, x1, x2⟩ w' → Calls Try.prog 29 #[.pointer (some ⟨w1.heap.size, 0, none⟩), .int .u64 x1] w' (TellO x0 x1 x2 w')) := Lib.hid (fun w' h => by
      obtain ⟨v, h1, h2⟩ := HTE.out w' h
      exact (VClean_any w' _ v _ x1 _ h1 h2 HASC.out (by simp)).mono fun e w'' hh => TellO.of (by rw [HCL.out] at hh; exact hh))
    have HPICK : Hid (∀ w', OwSt W w1.heap.size (fun k => (k = w1.heap.size ∨ w2.heap.size ≤ k) ∧ k < w3.heap.size) ⟨x0, x1, x2⟩ w' → Calls Try.prog 33 #[.pointer (some ⟨w1.heap.size, 0, none⟩), .int .u64 x0, .int .u64 0] w' (TellO x0 x1 x2 w')) := Lib.hid (fun w' h => by
      obtain ⟨v, h1, h2⟩ := HTE.out w' h
      exact (VPick_any w' _ v _ x0 0 _ h1 h2 HASC.out (by simp)).mono fun e w'' hh => TellO.of (by rw [HPK.out] at hh; exact hh))
    have HSZ4 : Hid (W.heap.size ≤ w4.heap.size) := Lib.hid HST4.out.kp.size
    clear hk4
    go_wp2_with fail
    refine (HLAST.out _ HST4.out).mono ?_
    rintro e w5 ⟨u5, n5, rfl, ho5, hk5⟩
    have HO5 := Lib.hid ho5
    have hfl5 := fld15_d x0 x1 (.slice u5 x2.length n5)
    have HKK5 := Lib.hid hk5
    clear hk5 ho5
    go_wp2_with fail
    refine (spoil15 w5 _ _ x2 HO5.out (by omega)).mono ?_
    rintro e v5 ⟨rfl, hs5⟩
    have HST5 := Lib.hid (HST4.out.spoil HKK5.out (fun k h => h) hs5)
    have HXB5 := Lib.hid (HST5.out.kp.heap (fun h => h) HBX.out)
    have HYB5 := Lib.hid (HST5.out.kp.heap (fun h => h) HBY.out)
    obtain ⟨c0, c1, c2⟩ := cells3v HXB5.out
    clear hs5 hfl5
    go_wp2_with fail
    refine (HCLEAN.out _ HST5.out).mono ?_
    clear c0 c1 c2
    rintro e w6 ⟨u6, n6, rfl, ho6, hk6⟩
    have HO6 := Lib.hid ho6
    have hfl6 := fld15_d x0 x1 (.slice u6 x2.length n6)
    have HKK6 := Lib.hid hk6
    clear hk6 ho6
    go_wp2_with fail
    refine (spoil15 w6 _ _ x2 HO6.out (by omega)).mono ?_
    rintro e v6 ⟨rfl, hs6⟩
    have HST6 := Lib.hid (HST5.out.spoil HKK6.out (fun k h => h) hs6)
    have HXB6 := Lib.hid (HST6.out.kp.heap (fun h => h) HBX.out)
    have HYB6 := Lib.hid (HST6.out.kp.heap (fun h => h) HBY.out)
    obtain ⟨c0, c1, c2⟩ := cells3v HXB6.out
    clear hs6 hfl6
    go_wp2_with fail
    refine (HPICK.out _ HST6.out).mono ?_
    clear c0 c1 c2
    rintro e w7 ⟨u7, n7, rfl, ho7, hk7⟩
    have HO7 := Lib.hid ho7
    have hfl7 := fld15_d x0 x1 (.slice u7 x2.length n7)
    have HKK7 := Lib.hid hk7
    clear hk7 ho7
    go_wp2_with fail
    refine (spoil15 w7 _ _ x2 HO7.out (by omega)).mono ?_
    rintro e v7 ⟨rfl, hs7⟩
    have HST7 := Lib.hid (HST6.out.spoil HKK7.out (fun k h => h) hs7)
    have HXB7 := Lib.hid (HST7.out.kp.heap (fun h => h) HBX.out)
    have HYB7 := Lib.hid (HST7.out.kp.heap (fun h => h) HBY.out)
    obtain ⟨c0, c1, c2⟩ := cells3v HXB7.out
    clear hs7 hfl7
    obtain ⟨lv, hlv1, hlv2⟩ := HTE.out _ HST7.out
    have HLI := Lib.hid (VList_any v7 _ lv _ _ hlv1 hlv2 HASC.out (by simp))
    clear hlv1 hlv2
    go_wp2_with fail
    refine HLI.out.mono ?_
    rintro e w8 ⟨r8, ps8, rfl, hps8, hr8, hx8, hd8, hk8⟩
    obtain ⟨⟨p8, pv8⟩, rfl⟩ : ∃ p, ps8 = [p] := List.length_eq_one_iff.1 (by rw [← List.length_map (f := Prod.fst), hps8]; rfl)
    obtain rfl : p8 = ⟨x0, x1, x2⟩ := by simpa using hps8
    have ho8 := hd8 _ (List.mem_singleton.2 rfl)
    simp only at ho8
    obtain ⟨a8, n8, rfl⟩ := own_form ho8.2.1
    have HST8 := Lib.hid (HST7.out.no hk8)
    have HX8 := Lib.hid hx8
    have HO8 := Lib.hid ho8
    have HS8 := Lib.hid (show w.heap.size + 2 ≤ v7.heap.size by have := HST7.out.kp.size; have := HSZW.out; omega)
    have HR8 := Lib.hid hr8
    clear hps8 hr8 hx8 hd8 hk8 ho8 c0 c1 c2
    have hl1 : (([(⟨x0, x1, x2⟩, .slice a8 x2.length n8)] : List (Vn × Value)).length : Int) = 1 := rfl
    go_wp2_with fail
    go_loopw [9] (OwRel w8 (fun k => v7.heap.size ≤ k ∧ k ≠ r8)) (fun i _ => 1 - (RowKit.intOf i).toNat)
    case atStart => exact ⟨0, Nat.zero_le _, rfl, fun _ => Kept.refl _ _, Kept.refl _ _⟩
    case round =>
      obtain ⟨k, hk, rfl, hk0, hkk⟩ := hrel
      have HKK := Lib.hid hkk
      by_cases hlt : k = 0
      · subst hlt
        have hko := hk0 rfl
        have HKO := Lib.hid hko
        have hrow := hko.heap (fun h => h) HX8.out
        have e2 := cell_of_row _ _ 2 _ _ _ hrow
        have e2' : wr.cell? ⟨r8, 2, none⟩ = some (.slice a8 x2.length n8) := e2
        have HSP := Lib.hid (spoil15 wr _ _ x2 (HO8.out.kept hko (fun _ _ h => h)) (by omega))
        clear hk0 hkk hko hrow e2
        go_wp2_with fail
        refine HSP.out.mono ?_
        rintro e w9 ⟨rfl, hk9⟩
        have HK9 := Lib.hid (HKK.out.trans hk9 (fun i hi h => h))
        clear hk9
        go_wp2
        exact ⟨⟨1, Nat.le_refl _, rfl, fun h => absurd h (by decide), HK9.out⟩, by simp [RowKit.intOf]⟩
      · obtain rfl : k = 1 := by omega
        have HST9 : Hid (OwSt W w1.heap.size (fun k => (k = w1.heap.size ∨ w2.heap.size ≤ k) ∧ k < w3.heap.size) ⟨x0, x1, x2⟩ wr) := Lib.hid
          ⟨HST8.out.bk.kept hkk (fun k hg h => by have := (HST7.out.gb k hg).2; omega), fun i hi => ⟨(HST8.out.gb i hi).1, Nat.lt_of_lt_of_le (HST8.out.gb i hi).2 hkk.size⟩, HST8.out.kp.trans hkk (fun i hi h => by have := HST7.out.kp.size; omega)⟩
        clear hk0 hkk
        go_wp2_with fail
        have HKe := Lib.hid (Kept.refl NoB wr).drew
        have HKZ := Lib.hid HST9.out.kp
        have HT := Lib.hid (HTEN.out _ (HKZ.out.trans HKe.out (fun _ _ h => h)))
        have HLK : Hid (∀ (w' : World) (ul : Option Addr) (nl : Nat) (F : Nat → Prop), Kept NoB wr w' → Own w' F (.slice ul x2.length nl) x2 → Calls Try.prog 26 #[.agg #[.int .u64 x0, .int .u64 x1, .slice ul x2.length nl], .agg #[.int .u64 x0, .int .u64 x1, .slice xa x2.length xc]] w' fun e w'' => e = .returned (.bool true) ∧ Kept NoB w' w'') := Lib.hid (fun w' ul nl F hk ho =>
          (like15 w' _ _ ⟨x0, x1, x2⟩ ⟨x0, x1, x2⟩ _ _ ⟨_, rfl, ho.bsl⟩ (HX.out.no (HKZ.out.trans hk (fun _ _ h => h)))).mono fun e w'' h => ⟨by rw [h.1, sameVB_same], h.2⟩)
        go_region_held3 (fun w' => w'.cell? ⟨w.heap.size, 0, none⟩ = some (.int .u64 x0) ∧ w'.cell? ⟨w.heap.size, 1, none⟩ = some (.int .u64 x1) ∧ w'.cell? ⟨w.heap.size, 2, none⟩ = some (.slice xa x2.length xc) ∧ w'.cell? ⟨w.heap.size + 1, 0, none⟩ = some (.int .u64 y0) ∧ w'.cell? ⟨w.heap.size + 1, 1, none⟩ = some (.int .u64 y1) ∧ w'.cell? ⟨w.heap.size + 1, 2, none⟩ = some (.slice ya y2.length yc))
          (with_reducible exact HT.out)
          (first
            | (go_at_call 27; (with_reducible refine (HLAST.out _ (HST9.out.no HKe.out)).mono ?_); rintro e w10 ⟨ul, nl, rfl, hol, hk10⟩; have HOL := Lib.hid hol; replace HKe := Lib.hid (HKe.out.trans hk10 (fun _ _ h => h)); replace HT := Lib.hid (HTEN.out _ (HKZ.out.trans HKe.out (fun _ _ h => h))); clear hk10 hol)
            | (go_at_call 26; (with_reducible refine (HLK.out _ _ _ _ HKe.out HOL.out).mono ?_); rintro e w10 ⟨rfl, hk10⟩; replace HKe := Lib.hid (HKe.out.trans hk10 (fun _ _ h => h)); replace HT := Lib.hid (HTEN.out _ (HKZ.out.trans HKe.out (fun _ _ h => h))); clear hk10)
            | (go_at_call 20; (first | (with_reducible refine (HOX.out _ (HKZ.out.trans HKe.out (fun _ _ h => h))).mono ?_) | (with_reducible refine (HOY.out _ (HKZ.out.trans HKe.out (fun _ _ h => h))).mono ?_)); rintro e w10 ⟨rfl, hk10⟩; replace HKe := Lib.hid (HKe.out.trans hk10 (fun _ _ h => h)); replace HT := Lib.hid (HTEN.out _ (HKZ.out.trans HKe.out (fun _ _ h => h))); clear hk10)
            | (go_at_call 35; (with_reducible refine (HSA.out _ (HKZ.out.trans HKe.out (fun _ _ h => h))).mono ?_); rintro e w10 ⟨rfl, hk10⟩; replace HKe := Lib.hid (HKe.out.trans hk10 (fun _ _ h => h)); replace HT := Lib.hid (HTEN.out _ (HKZ.out.trans HKe.out (fun _ _ h => h))); clear hk10)
            | (go_at_call 36; (with_reducible refine (HSR.out _ (HKZ.out.trans HKe.out (fun _ _ h => h))).mono ?_); rintro e w10 ⟨rfl, hk10⟩; replace HKe := Lib.hid (HKe.out.trans hk10 (fun _ _ h => h)); replace HT := Lib.hid (HTEN.out _ (HKZ.out.trans HKe.out (fun _ _ h => h))); clear hk10)
            | (go_at_call 17; (with_reducible refine (HAW.out _).mono ?_); rintro e w10 ⟨rfl, hk10⟩; replace HKe := Lib.hid (HKe.out.trans hk10 (fun _ _ h => h)); replace HT := Lib.hid (HTEN.out _ (HKZ.out.trans HKe.out (fun _ _ h => h))); clear hk10))
        go_wp2
        go_ret
        exact ⟨rfl, (HKW.out.trans HKZ.out (fun _ _ h => h)).trans HKe.out (fun _ _ h => h)⟩
end Go.Proofs.Ytnmclhgljpcjcaa
