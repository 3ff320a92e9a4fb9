/-
  Whether two configurations, two lists of them are the same.
-/
import Derived.Test.YtbdenjmnohhhiaaDoorCnfR
namespace Go.Proofs.YtbdenjmnohhhiaaDoor
open Go.RowKit
set_option linter.unusedVariables false

theorem same_is (a b : Cf) (d : Bool) (hd : d = decide (a.ns = b.ns)) : sameC a b = (decide (a.ch = b.ch) && decide (a.ep = b.ep) && d && (a.fr == b.fr) && decide (a.jn = b.jn)) := by
  subst hd
  unfold sameC
  cases a; cases b
  rw [Bool.eq_iff_iff]
  simp [Cf.mk.injEq, and_assoc]
set_option maxRecDepth 100000 in
set_option maxHeartbeats 2000000 in
theorem RSame_any (v u : Value) (a b : Cf) (F G : Nat → Prop) (w : World) (hv : CfV w F v a) (hu : CfV w G u b) : Calls Tryd.prog 14 #[v, u] w (BoolE (sameC a b) w) := by
  obtain ⟨x, rfl, hn, _, _, hl⟩ := hv
  obtain ⟨y, rfl, hm, _, _, hl2⟩ := hu
  obtain ⟨xa, xc, rfl, _⟩ := id hn
  obtain ⟨ya, yc, rfl, _⟩ := id hm
  obtain ⟨d, hd⟩ : ∃ d, d = decide (a.ns = b.ns) := ⟨_, rfl⟩
  have HS := Lib.hid (same_is a b d hd)
  have HE := Lib.hid (fun w' (hk : Kept NoB w w') => hd ▸ SameN_any _ _ a.ns b.ns F G w' (hn.kept hk (fun _ _ _ h => h)) (hm.kept hk (fun _ _ _ h => h)))
  obtain ⟨s, hs⟩ : ∃ s, s = sameC a b := ⟨_, rfl⟩
  rw [← hs] at HS ⊢
  clear hn hm hd hs
  obtain ⟨ch, ep, ns, fr, jn⟩ := a
  obtain ⟨ch2, ep2, ns2, fr2, jn2⟩ := b
  simp only at HS HE hl hl2 ⊢
  by_cases e1 : ch = ch2
  rotate_left
  · have b1 : ((ch : Int) == (ch2 : Int)) = false := by simpa using e1
    have HF : Hid (s = false) := Lib.hid (by rw [HS.out, decide_eq_false e1]; simp)
    clear e1
    go_enter Tryd.func14, Tryd.ntmps14
    go_wp2
    go_ret
    exact ⟨(by rw [HF.out] <;> rfl), ((Kept.refl _ _).alloc _).alloc _⟩
  subst e1
  by_cases e2 : ep = ep2
  rotate_left
  · have b1 : ((ep : Int) == (ep2 : Int)) = false := by simpa using e2
    have HF : Hid (s = false) := Lib.hid (by rw [HS.out, decide_eq_false e2]; simp)
    clear e2
    go_enter Tryd.func14, Tryd.ntmps14
    go_wp2
    go_ret
    exact ⟨(by rw [HF.out] <;> rfl), ((Kept.refl _ _).alloc _).alloc _⟩
  subst e2
  have HK := Lib.hid (((Kept.refl NoB w).alloc (.cells #[.int .i64 ch, .int .u64 ep, .slice xa ns.length xc, .bool fr, .int .i64 jn] 25)).alloc (.cells #[.int .i64 ch, .int .u64 ep, .slice ya ns2.length yc, .bool fr2, .int .i64 jn2] 25))
  have hb := heap_alloc_new (w.alloc (.cells #[.int .i64 ch, .int .u64 ep, .slice xa ns.length xc, .bool fr, .int .i64 jn] 25)) (.cells #[.int .i64 ch, .int .u64 ep, .slice ya ns2.length yc, .bool fr2, .int .i64 jn2] 25)
  have hz : (w.alloc (.cells #[.int .i64 ch, .int .u64 ep, .slice xa ns.length xc, .bool fr, .int .i64 jn] 25)).heap.size = w.heap.size + 1 := by simp
  rw [hz] at hb
  have HB := Lib.hid hb
  have HA := Lib.hid (balloc (heap_alloc_new w (.cells #[.int .i64 ch, .int .u64 ep, .slice xa ns.length xc, .bool fr, .int .i64 jn] 25)) (.cells #[.int .i64 ch, .int .u64 ep, .slice ya ns2.length yc, .bool fr2, .int .i64 jn2] 25))
  clear hb hz
  obtain ⟨q, hq⟩ : ∃ q, q = decide (jn = jn2) := ⟨_, rfl⟩
  have HQ : Hid (s = (d && (fr == fr2) && q)) := Lib.hid (by rw [HS.out, hq]; simp)
  have b3 : ((jn : Int) == (jn2 : Int)) = q := by rw [hq]; rfl
  have b4 : ((jn2 : Int) == (jn : Int)) = q := by rw [hq, Bool.eq_iff_iff]; simp; exact ⟨fun h => h.symm, fun h => h.symm⟩
  clear hq
  cases fr <;> cases fr2 <;> cases d <;> cases q
  all_goals
    go_enter Tryd.func14, Tryd.ntmps14
    go_wp2_with (go_at_call 32; refine (HE.out _ HK.out).mono ?_; rintro e w1 ⟨rfl, hk1⟩; obtain ⟨c0, c1, c2, c3, c4⟩ := cells5 (hk1.heap (fun h => h) HA.out); obtain ⟨d0, d1, d2, d3, d4⟩ := cells5 (hk1.heap (fun h => h) HB.out); have HK1 := Lib.hid (HK.out.trans hk1 (fun _ _ h => h)); clear hk1)
    go_ret
    exact ⟨retB (by rw [HQ.out]; rfl), (by first | exact HK1.out | exact ((Kept.refl _ _).alloc _).alloc _)⟩
end Go.Proofs.YtbdenjmnohhhiaaDoor
