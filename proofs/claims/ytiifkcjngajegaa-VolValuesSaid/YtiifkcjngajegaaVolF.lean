/-
  Layer 30: the walk of VolValues.
-/
import Derived.Test.YtiifkcjngajegaaVolE
import Derived.Test.YtiifkcjngajegaaVolB
import Derived.BigRegion
import Derived.Deep.RegionLaw
namespace Go.Proofs.Ytiifkcjngajegaa
open Go.RowKit
set_option linter.unusedVariables false

theorem node_facts (i : Int) (b : List Int) (hB : IsB b) : (0 ≤ (node30 i b).2.2.1 ∧ (node30 i b).2.2.1 < 4294967296) ∧ (node30 i b).2.2.2.length ≤ 8 ∧ ((node30 i b).1 = 0 → chk28 (node30 i b).2.1 (node30 i b).2.2.1 (node30 i b).2.2.2 = 0) := by
  by_cases hc : i = 1 ∧ b = []
  · have hn : node30 i b = (0, 2, 0, []) := by unfold node30; rw [if_pos hc]
    rw [hn]
    exact ⟨⟨by show (0 : Int) ≤ 0; omega, by show (0 : Int) < _; omega⟩, by show ([] : List Xt).length ≤ 8; decide, fun _ => by show chk28 2 0 [] = 0; decide⟩
  · have hn : node30 i b = got28 b := by unfold node30; rw [if_neg hc]
    rw [hn]
    refine ⟨got_size28 b hB, got_len28 b, fun h => ?_⟩
    by_cases hb : b = []
    · rw [hb, show got28 [] = (0, 0, 0, []) by unfold got28; rw [if_pos rfl]]
      show chk28 0 0 [] = 0; decide
    · exact (got_bytes28 (b := b) (m := (got28 b).2.1) (s := (got28 b).2.2.1) (l := (got28 b).2.2.2) hB hb (by rw [← h])).1
set_option maxRecDepth 100000 in
set_option maxHeartbeats 4000000 in
theorem VolValues_any (i : Int) (v : Value) (b0 : List Int) (W : World) (h : BSl W (fun k => k < W.heap.size) v b0) :
    Calls Try.prog 7 #[.int .i64 i, v] W fun e W' => e = .returned (.bool true) ∧ Kept NoB W W' := by
  have HV := Lib.hid h
  obtain ⟨va, vc, rfl, _⟩ := id h
  clear h
  go_enter Try.func7, Try.ntmps7
  go_wp2_with fail
  refine (Cut_any _ b0 200 _ _ HV.out (by omega)).mono ?_
  rintro e w' ⟨v', rfl, hb, rfl⟩
  obtain ⟨b, hb0⟩ : ∃ b, b = b0.take 200 := ⟨_, rfl⟩
  rw [← hb0] at hb
  have hbl : b.length ≤ 200 := by rw [hb0, List.length_take]; omega
  have HB := Lib.hid hb
  have hfa := node_facts i b hb.isB
  have HK := Lib.hid (Kept.refl NoB W)
  have HG1 := Lib.hid (fun v W' (h : BSl W' (fun k => k < W.heap.size) v b) => vNode_any i v b _ W' h (by omega))
  have HG2 := Lib.hid (fun v W' (h : BSl W' (fun k => k < W.heap.size) v b) (hs : W.heap.size ≤ W'.heap.size) => rNode30_any i v b _ W' h (by omega) (fun k hk => Nat.lt_of_lt_of_le hk hs))
  obtain ⟨G, hG⟩ : ∃ G, G = node30 i b := ⟨_, rfl⟩
  rw [← hG] at HG1 HG2 hfa
  obtain ⟨er, m, s, l⟩ := G
  simp only at HG1 HG2 hfa
  obtain ⟨hsz, hl8, hch⟩ := hfa
  have HPU := Lib.hid (fun x W' (hx : XSl W' (fun _ => True) x l) => iPut_any m s x l _ W' hx (by omega) (by omega))
  obtain ⟨gg, hgg⟩ : ∃ q, q = chk28 m s l := ⟨_, rfl⟩
  rw [← hgg] at HPU hch
  have HCH := Lib.hid hch
  have e1 : (er != er) = false := bne_self_eq_false er
  have e2 : (m != m) = false := bne_self_eq_false m
  have e3 : (s != s) = false := bne_self_eq_false s
  have e4 : ((l.length : Int) != (l.length : Int)) = false := bne_self_eq_false _
  clear hb0 hG HV hsz hgg hch
  obtain ⟨a, cap, rfl, _⟩ := id hb
  clear hb
  go_wp2_with (first
    | (go_at_call 35; refine (HG1.out _ _ HB.out).mono ?_; rintro e w1 ⟨aX, cX', rfl, hx, hk⟩; (try simp only at hx); (have hk2 := (Kept.refl NoB w1).alloc (.cells #[.int .i64 m, .int .i64 s, .slice aX l.length cX'] 26)); (have hk3 := hk.trans hk2 (fun _ _ h => h)); (try replace HX := Lib.hid (HX.out.kept hk3 (fun h => h))); (try replace HXS := Lib.hid (HXS.out.no hk3)); (try replace HY := Lib.hid (HY.out.kept hk3 (fun h => h))); (try replace HYS := Lib.hid (HYS.out.no hk3)); (try replace HP1 := Lib.hid (HP1.out.kept hk3 (fun _ _ h => h))); (try replace HP2 := Lib.hid (HP2.out.kept hk3 (fun _ _ h => h))); replace HB := Lib.hid (HB.out.kept hk3 (fun _ _ h => h)); replace HK := Lib.hid (HK.out.trans hk3 (fun _ _ h => h)); have HX := Lib.hid (IAt.new 26 w1 m s (.slice aX l.length cX')); have HXS := Lib.hid (hx.any.no hk2); (try clear p0 p1 p2); (try (obtain ⟨p0, p1, p2⟩ := HX.out.cells)); (try clear c0 c1 c2); (try (obtain ⟨c0, c1, c2⟩ := HY.out.cells)); clear hx hk hk2 hk3)
    | (go_at_call 36; refine (HG2.out _ _ HB.out HK.out.size).mono ?_; rintro e w1 ⟨aY, cY', rfl, hx, hk⟩; (try simp only at hx); (have hk2 := (Kept.refl NoB w1).alloc (.cells #[.int .i64 m, .int .i64 s, .slice aY l.length cY'] 32)); (have hk3 := hk.trans hk2 (fun _ _ h => h)); (try replace HX := Lib.hid (HX.out.kept hk3 (fun h => h))); (try replace HXS := Lib.hid (HXS.out.no hk3)); (try replace HY := Lib.hid (HY.out.kept hk3 (fun h => h))); (try replace HYS := Lib.hid (HYS.out.no hk3)); (try replace HP1 := Lib.hid (HP1.out.kept hk3 (fun _ _ h => h))); (try replace HP2 := Lib.hid (HP2.out.kept hk3 (fun _ _ h => h))); replace HB := Lib.hid (HB.out.kept hk3 (fun _ _ h => h)); replace HK := Lib.hid (HK.out.trans hk3 (fun _ _ h => h)); have HY := Lib.hid (IAt.new 32 w1 m s (.slice aY l.length cY')); have HYS := Lib.hid (hx.any.no hk2); (try clear p0 p1 p2); (try (obtain ⟨p0, p1, p2⟩ := HX.out.cells)); (try clear c0 c1 c2); (try (obtain ⟨c0, c1, c2⟩ := HY.out.cells)); clear hx hk hk2 hk3))
  generalize (w1.alloc (.cells #[.int .i64 m, .int .i64 s, .slice aY l.length cY'] 32)) = W1 at HX HXS HY HYS HB HK p0 p1 p2 c0 c1 c2 ⊢
  go_loopw [9] (fun i wr => ∃ k : Nat, k ≤ l.length ∧ i = .int .i64 k ∧ Kept NoB W1 wr) (fun i _ => l.length - (RowKit.intOf i).toNat)
  case atStart => exact ⟨0, Nat.zero_le _, rfl, by first | exact Kept.refl _ _ | exact (Kept.refl _ _).alloc _⟩
  case round =>
    obtain ⟨k, hk, rfl, hkk⟩ := hrel
    replace HX := Lib.hid (HX.out.kept hkk (fun h => h))
    replace HY := Lib.hid (HY.out.kept hkk (fun h => h))
    replace HXS := Lib.hid (HXS.out.no hkk)
    replace HYS := Lib.hid (HYS.out.no hkk)
    replace HB := Lib.hid (HB.out.kept hkk (fun _ _ h => h))
    replace HK := Lib.hid (HK.out.trans hkk (fun _ _ h => h))
    have HKK := Lib.hid hkk
    clear p0 p1 p2 c0 c1 c2 hkk
    obtain ⟨p0, p1, p2⟩ := HX.out.cells
    obtain ⟨c0, c1, c2⟩ := HY.out.cells
    by_cases hlt : k < l.length
    · have hlt2 : (k : Int) < (l.length : Int) := by omega
      have hk0 : (0 : Int) ≤ (k : Int) := by omega
      obtain ⟨x1, o1, hx1, _, _, y0, y1⟩ := HXS.out.at_ hlt
      obtain ⟨x2, o2, hx2, _, _, z0, z1⟩ := HYS.out.at_ hlt
      subst hx1 hx2
      obtain ⟨q, hq⟩ : ∃ q, q = xth l k := ⟨_, rfl⟩
      rw [← hq] at y0 y1 z0 z1
      obtain ⟨q0, q1⟩ := q
      simp only at y0 y1 z0 z1
      clear hq
      go_wp2_with fail
      go_region
      go_wp2
      go_roundw
      case rel => exact ⟨k + 1, by omega, by go_num, by first | exact HKK.out | exact HKK.out.drewN _ | exact HKK.out.drew⟩
      case measure => simp [RowKit.intOf]; omega
    · obtain rfl : k = l.length := by omega
      by_cases he : er = 0
      · obtain rfl : gg = 0 := HCH.out he
        subst he
        go_wp2_with (first
        | (go_at_call 11; refine (HPU.out _ _ HXS.out).mono ?_; rintro e w3 ⟨a3, c3', rfl, hb, hk⟩; (try replace HX := Lib.hid (HX.out.kept hk (fun h => h))); (try replace HXS := Lib.hid (HXS.out.no hk)); (try replace HY := Lib.hid (HY.out.kept hk (fun h => h))); (try replace HYS := Lib.hid (HYS.out.no hk)); (try replace HP1 := Lib.hid (HP1.out.kept hk (fun _ _ h => h))); (try replace HP2 := Lib.hid (HP2.out.kept hk (fun _ _ h => h))); replace HB := Lib.hid (HB.out.kept hk (fun _ _ h => h)); replace HK := Lib.hid (HK.out.trans hk (fun _ _ h => h)); clear hb; (try clear p0 p1 p2); (try (obtain ⟨p0, p1, p2⟩ := HX.out.cells)); (try clear c0 c1 c2); (try (obtain ⟨c0, c1, c2⟩ := HY.out.cells)); clear hk)
        | (go_at_call 37; refine (vWhole_any _ b _ _ HB.out).mono ?_; rintro e w5 ⟨v5, rfl, hb, hk⟩; (try replace HX := Lib.hid (HX.out.kept hk (fun h => h))); (try replace HXS := Lib.hid (HXS.out.no hk)); (try replace HY := Lib.hid (HY.out.kept hk (fun h => h))); (try replace HYS := Lib.hid (HYS.out.no hk)); (try replace HP1 := Lib.hid (HP1.out.kept hk (fun _ _ h => h))); (try replace HP2 := Lib.hid (HP2.out.kept hk (fun _ _ h => h))); replace HB := Lib.hid (HB.out.kept hk (fun _ _ h => h)); replace HK := Lib.hid (HK.out.trans hk (fun _ _ h => h)); have HP1 := Lib.hid (hb.mono (G := fun _ => True) (fun _ _ _ => trivial)); clear hb; (try clear p0 p1 p2); (try (obtain ⟨p0, p1, p2⟩ := HX.out.cells)); (try clear c0 c1 c2); (try (obtain ⟨c0, c1, c2⟩ := HY.out.cells)); clear hk)
        | (go_at_call 38; refine (rWhole30_any _ b _ _ HB.out (fun k hk => Nat.lt_of_lt_of_le hk HK.out.size)).mono ?_; rintro e w5 ⟨v6, rfl, hb, hk⟩; (try replace HX := Lib.hid (HX.out.kept hk (fun h => h))); (try replace HXS := Lib.hid (HXS.out.no hk)); (try replace HY := Lib.hid (HY.out.kept hk (fun h => h))); (try replace HYS := Lib.hid (HYS.out.no hk)); (try replace HP1 := Lib.hid (HP1.out.kept hk (fun _ _ h => h))); (try replace HP2 := Lib.hid (HP2.out.kept hk (fun _ _ h => h))); replace HB := Lib.hid (HB.out.kept hk (fun _ _ h => h)); replace HK := Lib.hid (HK.out.trans hk (fun _ _ h => h)); have HP2 := Lib.hid (hb.mono (G := fun _ => True) (fun _ _ _ => trivial)); clear hb; (try clear p0 p1 p2); (try (obtain ⟨p0, p1, p2⟩ := HX.out.cells)); (try clear c0 c1 c2); (try (obtain ⟨c0, c1, c2⟩ := HY.out.cells)); clear hk)
        | (go_at_call 13; refine (Same_any _ _ (wh30 b) (wh30 b) _ _ _ HP1.out HP2.out).mono ?_; rw [decide_eq_true rfl]; rintro e w4 ⟨rfl, hk⟩; (try replace HX := Lib.hid (HX.out.kept hk (fun h => h))); (try replace HXS := Lib.hid (HXS.out.no hk)); (try replace HY := Lib.hid (HY.out.kept hk (fun h => h))); (try replace HYS := Lib.hid (HYS.out.no hk)); (try replace HP1 := Lib.hid (HP1.out.kept hk (fun _ _ h => h))); (try replace HP2 := Lib.hid (HP2.out.kept hk (fun _ _ h => h))); replace HB := Lib.hid (HB.out.kept hk (fun _ _ h => h)); replace HK := Lib.hid (HK.out.trans hk (fun _ _ h => h)); (try clear p0 p1 p2); (try (obtain ⟨p0, p1, p2⟩ := HX.out.cells)); (try clear c0 c1 c2); (try (obtain ⟨c0, c1, c2⟩ := HY.out.cells)); clear hk)
        | (go_at_call 23; refine (awake30_any _).mono ?_; rintro e w4 ⟨rfl, hk⟩; (try replace HX := Lib.hid (HX.out.kept hk (fun h => h))); (try replace HXS := Lib.hid (HXS.out.no hk)); (try replace HY := Lib.hid (HY.out.kept hk (fun h => h))); (try replace HYS := Lib.hid (HYS.out.no hk)); (try replace HP1 := Lib.hid (HP1.out.kept hk (fun _ _ h => h))); (try replace HP2 := Lib.hid (HP2.out.kept hk (fun _ _ h => h))); replace HB := Lib.hid (HB.out.kept hk (fun _ _ h => h)); replace HK := Lib.hid (HK.out.trans hk (fun _ _ h => h)); (try clear p0 p1 p2); (try (obtain ⟨p0, p1, p2⟩ := HX.out.cells)); (try clear c0 c1 c2); (try (obtain ⟨c0, c1, c2⟩ := HY.out.cells)); clear hk))
        go_ret
        exact ⟨rfl, HK.out⟩
      · have hne : (er != 0) = true := bne_iff_ne.2 he
        clear he
        go_wp2_with (first
        | (go_at_call 11; refine (HPU.out _ _ HXS.out).mono ?_; rintro e w3 ⟨a3, c3', rfl, hb, hk⟩; (try replace HX := Lib.hid (HX.out.kept hk (fun h => h))); (try replace HXS := Lib.hid (HXS.out.no hk)); (try replace HY := Lib.hid (HY.out.kept hk (fun h => h))); (try replace HYS := Lib.hid (HYS.out.no hk)); (try replace HP1 := Lib.hid (HP1.out.kept hk (fun _ _ h => h))); (try replace HP2 := Lib.hid (HP2.out.kept hk (fun _ _ h => h))); replace HB := Lib.hid (HB.out.kept hk (fun _ _ h => h)); replace HK := Lib.hid (HK.out.trans hk (fun _ _ h => h)); clear hb; (try clear p0 p1 p2); (try (obtain ⟨p0, p1, p2⟩ := HX.out.cells)); (try clear c0 c1 c2); (try (obtain ⟨c0, c1, c2⟩ := HY.out.cells)); clear hk)
        | (go_at_call 37; refine (vWhole_any _ b _ _ HB.out).mono ?_; rintro e w5 ⟨v5, rfl, hb, hk⟩; (try replace HX := Lib.hid (HX.out.kept hk (fun h => h))); (try replace HXS := Lib.hid (HXS.out.no hk)); (try replace HY := Lib.hid (HY.out.kept hk (fun h => h))); (try replace HYS := Lib.hid (HYS.out.no hk)); (try replace HP1 := Lib.hid (HP1.out.kept hk (fun _ _ h => h))); (try replace HP2 := Lib.hid (HP2.out.kept hk (fun _ _ h => h))); replace HB := Lib.hid (HB.out.kept hk (fun _ _ h => h)); replace HK := Lib.hid (HK.out.trans hk (fun _ _ h => h)); have HP1 := Lib.hid (hb.mono (G := fun _ => True) (fun _ _ _ => trivial)); clear hb; (try clear p0 p1 p2); (try (obtain ⟨p0, p1, p2⟩ := HX.out.cells)); (try clear c0 c1 c2); (try (obtain ⟨c0, c1, c2⟩ := HY.out.cells)); clear hk)
        | (go_at_call 38; refine (rWhole30_any _ b _ _ HB.out (fun k hk => Nat.lt_of_lt_of_le hk HK.out.size)).mono ?_; rintro e w5 ⟨v6, rfl, hb, hk⟩; (try replace HX := Lib.hid (HX.out.kept hk (fun h => h))); (try replace HXS := Lib.hid (HXS.out.no hk)); (try replace HY := Lib.hid (HY.out.kept hk (fun h => h))); (try replace HYS := Lib.hid (HYS.out.no hk)); (try replace HP1 := Lib.hid (HP1.out.kept hk (fun _ _ h => h))); (try replace HP2 := Lib.hid (HP2.out.kept hk (fun _ _ h => h))); replace HB := Lib.hid (HB.out.kept hk (fun _ _ h => h)); replace HK := Lib.hid (HK.out.trans hk (fun _ _ h => h)); have HP2 := Lib.hid (hb.mono (G := fun _ => True) (fun _ _ _ => trivial)); clear hb; (try clear p0 p1 p2); (try (obtain ⟨p0, p1, p2⟩ := HX.out.cells)); (try clear c0 c1 c2); (try (obtain ⟨c0, c1, c2⟩ := HY.out.cells)); clear hk)
        | (go_at_call 13; refine (Same_any _ _ (wh30 b) (wh30 b) _ _ _ HP1.out HP2.out).mono ?_; rw [decide_eq_true rfl]; rintro e w4 ⟨rfl, hk⟩; (try replace HX := Lib.hid (HX.out.kept hk (fun h => h))); (try replace HXS := Lib.hid (HXS.out.no hk)); (try replace HY := Lib.hid (HY.out.kept hk (fun h => h))); (try replace HYS := Lib.hid (HYS.out.no hk)); (try replace HP1 := Lib.hid (HP1.out.kept hk (fun _ _ h => h))); (try replace HP2 := Lib.hid (HP2.out.kept hk (fun _ _ h => h))); replace HB := Lib.hid (HB.out.kept hk (fun _ _ h => h)); replace HK := Lib.hid (HK.out.trans hk (fun _ _ h => h)); (try clear p0 p1 p2); (try (obtain ⟨p0, p1, p2⟩ := HX.out.cells)); (try clear c0 c1 c2); (try (obtain ⟨c0, c1, c2⟩ := HY.out.cells)); clear hk)
        | (go_at_call 23; refine (awake30_any _).mono ?_; rintro e w4 ⟨rfl, hk⟩; (try replace HX := Lib.hid (HX.out.kept hk (fun h => h))); (try replace HXS := Lib.hid (HXS.out.no hk)); (try replace HY := Lib.hid (HY.out.kept hk (fun h => h))); (try replace HYS := Lib.hid (HYS.out.no hk)); (try replace HP1 := Lib.hid (HP1.out.kept hk (fun _ _ h => h))); (try replace HP2 := Lib.hid (HP2.out.kept hk (fun _ _ h => h))); replace HB := Lib.hid (HB.out.kept hk (fun _ _ h => h)); replace HK := Lib.hid (HK.out.trans hk (fun _ _ h => h)); (try clear p0 p1 p2); (try (obtain ⟨p0, p1, p2⟩ := HX.out.cells)); (try clear c0 c1 c2); (try (obtain ⟨c0, c1, c2⟩ := HY.out.cells)); clear hk))
        go_ret
        exact ⟨rfl, HK.out⟩
end Go.Proofs.Ytiifkcjngajegaa
