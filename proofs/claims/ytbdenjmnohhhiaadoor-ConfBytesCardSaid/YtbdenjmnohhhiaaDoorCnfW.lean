/-
  Package conf: whether a command of each kind is possible: Append, Promote, Settle.
-/
import Derived.Test.YtbdenjmnohhhiaaDoorCnfV
namespace Go.Proofs.YtbdenjmnohhhiaaDoor
open Go.RowKit
set_option linter.unusedVariables false

theorem k2_is (l : List Cf) (c : Cf) (nd : Int) (u : Bool) (hu : u = usedB l nd) : canK l c 2 nd = if u = true then 8 else if c.jn ≠ 0 ∨ c.fr = true then 12 else if 5 ≤ c.ns.length then 9 else 0 := by
  unfold canK; rw [if_neg (by decide), if_pos rfl, hu]
theorem k3_is (l : List Cf) (c : Cf) (nd : Int) : canK l c 3 nd = if c.jn ≠ nd then 7 else if 5 ≤ c.ns.length then 9 else 0 := by
  unfold canK; rw [if_neg (by decide), if_neg (by decide), if_pos rfl]
theorem k4_is (l : List Cf) (c : Cf) (nd : Int) : canK l c 4 nd = if c.fr = false ∨ c.last ≠ nd then 7 else 0 := by
  unfold canK; rw [if_neg (by decide), if_neg (by decide), if_neg (by decide)]
set_option maxRecDepth 100000 in
set_option maxHeartbeats 2000000 in
theorem canAppend_any (lv v : Value) (l : List Cf) (c : Cf) (nd : Int) (F G : Nat → Prop) (w : World) (hl : CfsAt w G lv l) (h : CfV w F v c) :
    Calls Tryd.prog 59 #[lv, v, .int .i64 nd] w (IntE (canK l c 2 nd) w) := by
  obtain ⟨u, rfl, hn, hbd⟩ := id h
  obtain ⟨a, cap, rfl, _⟩ := id hn
  have hnl := hbd.2.2
  obtain ⟨d, hd⟩ : ∃ d, d = usedB l nd := ⟨_, rfl⟩
  have HU := Lib.hid (fun w' (hk : Kept NoB w w') => hd ▸ Used_any lv l nd G w' (hl.kept hk (fun _ _ _ h => h)))
  have HX := Lib.hid (k2_is l c nd d hd)
  obtain ⟨r, hr⟩ : ∃ r, r = canK l c 2 nd := ⟨_, rfl⟩
  rw [← hr] at HX ⊢
  obtain ⟨la, lc, rfl, _⟩ := id hl
  clear h hn hbd hd hr hl
  obtain ⟨ch, ep, ns, fr, jn⟩ := c
  simp only at HX hnl ⊢
  have HB := Lib.hid (heap_alloc_new w (.cells #[.int .i64 ch, .int .u64 ep, .slice a ns.length cap, .bool fr, .int .i64 jn] 25))
  have HK := Lib.hid ((Kept.refl NoB w).alloc (.cells #[.int .i64 ch, .int .u64 ep, .slice a ns.length cap, .bool fr, .int .i64 jn] 25))
  cases d <;> cases fr
  all_goals
    go_enter Tryd.func59, Tryd.ntmps59
    go_wp2_with fail
    refine (HU.out _ HK.out).mono ?_
    rintro e w1 ⟨rfl, hk⟩
    have HK1 := Lib.hid (HK.out.trans hk (fun _ _ h => h))
    obtain ⟨c0, c1, c2, c3, c4⟩ := cells5 (hk.heap (fun h => h) HB.out)
    clear hk
    go_wp2
    all_goals go_ret
    all_goals exact ⟨by rw [HX.out]; first | rfl | (simp <;> omega) | (simp_all <;> omega), HK1.out⟩
set_option maxRecDepth 100000 in
set_option maxHeartbeats 2000000 in
theorem canPromote_any (lv v : Value) (l : List Cf) (c : Cf) (nd : Int) (F : Nat → Prop) (w : World) (h : CfV w F v c) :
    Calls Tryd.prog 61 #[lv, v, .int .i64 nd] w (IntE (canK l c 3 nd) w) := by
  obtain ⟨u, rfl, hn, hbd⟩ := id h
  obtain ⟨a, cap, rfl, _⟩ := id hn
  have hnl := hbd.2.2
  have HX := Lib.hid (k3_is l c nd)
  obtain ⟨r, hr⟩ : ∃ r, r = canK l c 3 nd := ⟨_, rfl⟩
  rw [← hr] at HX ⊢
  clear h hn hbd hr
  obtain ⟨ch, ep, ns, fr, jn⟩ := c
  simp only at HX hnl ⊢
  by_cases hj : jn = nd
  · subst hj
    go_enter Tryd.func61, Tryd.ntmps61
    go_wp2
    all_goals go_ret
    all_goals exact ⟨by rw [HX.out]; simp <;> omega, (Kept.refl _ _).alloc _⟩
  · have hjb : ((jn : Int) != (nd : Int)) = true := by simpa using hj
    have HX' : Hid (r = 7) := Lib.hid (by rw [HX.out, if_pos hj])
    clear hj
    go_enter Tryd.func61, Tryd.ntmps61
    go_wp2
    go_ret
    exact ⟨by rw [HX'.out] <;> rfl, (Kept.refl _ _).alloc _⟩
set_option maxRecDepth 100000 in
set_option maxHeartbeats 1000000 in
theorem isLast_any (v : Value) (c : Cf) (nd : Int) (F : Nat → Prop) (w : World) (h : CfV w F v c) (h1 : 1 ≤ c.ns.length) :
    Calls Tryd.prog 77 #[v, .int .i64 nd] w (BoolE (decide (c.last = nd)) w) := by
  obtain ⟨u, rfl, hn, hbd⟩ := id h
  obtain ⟨a, cap, rfl, _⟩ := id hn
  have hnl := hbd.2.2
  have hn1 := hn.kept ((Kept.refl NoB w).alloc (.cells #[.int .i64 c.ch, .int .u64 c.ep, .slice a c.ns.length cap, .bool c.fr, .int .i64 c.jn] 25)) (fun _ _ _ h => h)
  obtain ⟨b, o, rfl, _, _, hc⟩ := hn1.at_ (j := c.ns.length - 1) (by omega)
  have HL : Hid (c.last = c.ns.getD (c.ns.length - 1) 0) := Lib.hid rfl
  obtain ⟨x, hx⟩ : ∃ x, x = c.ns.getD (c.ns.length - 1) 0 := ⟨_, rfl⟩
  rw [← hx] at hc HL
  rw [HL.out]
  clear h hn hbd hn1 hx
  obtain ⟨ch, ep, ns, fr, jn⟩ := c
  simp only at hc h1 hnl ⊢
  obtain ⟨m, hm⟩ : ∃ m, m = ns.length - 1 := ⟨_, rfl⟩
  have hml : ns.length = m + 1 := by omega
  rw [← hm] at hc
  rw [hml] at hc hnl ⊢
  clear hm hml h1
  by_cases he : x = nd
  · subst he
    rw [decide_eq_true rfl]
    go_enter Tryd.func77, Tryd.ntmps77
    go_wp2
    go_ret
    exact ⟨rfl, (Kept.refl _ _).alloc _⟩
  · rw [decide_eq_false he]
    have heb : ((x : Int) == (nd : Int)) = false := by simpa using he
    clear he
    go_enter Tryd.func77, Tryd.ntmps77
    go_wp2
    go_ret
    exact ⟨rfl, (Kept.refl _ _).alloc _⟩
set_option maxRecDepth 100000 in
set_option maxHeartbeats 1000000 in
theorem canSettle_any (lv v : Value) (l : List Cf) (c : Cf) (nd : Int) (F : Nat → Prop) (w : World) (h : CfV w F v c) (h1 : 1 ≤ c.ns.length) :
    Calls Tryd.prog 63 #[lv, v, .int .i64 nd] w (IntE (canK l c 4 nd) w) := by
  obtain ⟨u, rfl, hn, hbd⟩ := id h
  obtain ⟨a, cap, rfl, _⟩ := id hn
  obtain ⟨d, hd⟩ : ∃ d, d = decide (c.last = nd) := ⟨_, rfl⟩
  have HL := Lib.hid (fun w' (hk : Kept NoB w w') => hd ▸ isLast_any _ c nd F w' (h.kept hk (fun _ _ _ h => h)) h1)
  have HX : Hid (canK l c 4 nd = if c.fr = false ∨ d = false then 7 else 0) := Lib.hid (by rw [k4_is, hd]; simp)
  obtain ⟨r, hr⟩ : ∃ r, r = canK l c 4 nd := ⟨_, rfl⟩
  rw [← hr] at HX ⊢
  clear h hn hbd hd hr h1
  obtain ⟨ch, ep, ns, fr, jn⟩ := c
  simp only at HX HL ⊢
  have HK := Lib.hid ((Kept.refl NoB w).alloc (.cells #[.int .i64 ch, .int .u64 ep, .slice a ns.length cap, .bool fr, .int .i64 jn] 25))
  cases fr <;> cases d
  all_goals
    go_enter Tryd.func63, Tryd.ntmps63
    go_wp2_with (go_at_call 77; refine (HL.out _ HK.out).mono ?_; rintro e w1 ⟨rfl, hk⟩; have HK1 := Lib.hid (HK.out.trans hk (fun _ _ h => h)); clear hk)
    go_ret
    exact ⟨by rw [HX.out] <;> rfl, (by first | exact HK1.out | exact (Kept.refl _ _).alloc _)⟩
end Go.Proofs.YtbdenjmnohhhiaaDoor
