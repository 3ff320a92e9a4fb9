/-
  Layer 30: the inode of any value: Node of the package, and the chapter's.
-/
import Derived.Test.YtiifkcjngajegaaIno4
import Derived.Test.YtiifkcjngajegaaVolD
namespace Go.Proofs.Ytiifkcjngajegaa
open Go.RowKit
set_option linter.unusedVariables false

/-- The inode of any value. -/
def node30 (i : Int) (b : List Int) : Int × Int × Int × List Xt := if i = 1 ∧ b = [] then (0, 2, 0, []) else got28 b
theorem of_empty30 : ofE 2 0 [] = 0 ∧ ofR 2 0 [] = (2, 0, []) := ⟨by decide, by decide⟩
theorem ires_set {er m s : Int} {l : List Xt} {w w1 : World} {a : Option Addr} {c : Nat} {t : TypeId} (x y z : Value) (hx : XSl w1 (fun k => w.heap.size + 1 ≤ k) (.slice a l.length c) l) (hk : Kept NoB w w1) :
    IRes er m s l w (.returned (.tuple #[iv28 m s (.slice a l.length c), .int .i64 er])) (((w1.setCell ⟨w.heap.size, 0, none⟩ x).setCell ⟨w.heap.size, 1, none⟩ y).setCell ⟨w.heap.size, 2, none⟩ z) :=
  ⟨a, c, rfl, (hx.kept (set3_kept _ w.heap.size _ _ _) (fun i hi he => by omega)).mono (fun i _ hi => by omega), hk.trans (set3_kept _ w.heap.size _ _ _) (fun i hi he => absurd hi (by omega))⟩
set_option maxRecDepth 100000 in
theorem vNode_any (i : Int) (v : Value) (b : List Int) (F : Nat → Prop) (w : World) (h : BSl w F v b) (hl : b.length ≤ 1000000) :
    Calls Try.prog 35 #[.int .i64 i, v] w (IRes (node30 i b).1 (node30 i b).2.1 (node30 i b).2.2.1 (node30 i b).2.2.2 w) := by
  obtain ⟨a, cap, rfl, _⟩ := id h
  have HK0 := Lib.hid ((Kept.refl NoB w).alloc (.cells #[.int .i64 0, .int .i64 0, .slice none 0 0] 26))
  have HA := Lib.hid (IAt.new 26 w 0 0 (.slice none 0 0))
  obtain ⟨c0, c1, c2⟩ := HA.out.cells
  have f0 := frz3 HA.out 0
  have f1 := frz3 HA.out 1
  have f2 := frz3 HA.out 2
  have HSA : Hid ((w.alloc (.cells #[.int .i64 0, .int .i64 0, .slice none 0 0] 26)).heap.size = w.heap.size + 1) := Lib.hid (by simp)
  by_cases hc : i = 1 ∧ b = []
  · obtain ⟨rfl, rfl⟩ := hc
    have hn : node30 1 [] = (0, 2, 0, []) := by unfold node30; rw [if_pos ⟨rfl, rfl⟩]
    rw [hn]
    simp only
    have HG := Lib.hid (fun W' => iOf_any 2 0 (.slice none 0 0) [] (fun _ => True) W' (NSl.nil _ _) (by simp) (by omega) (by omega))
    rw [of_empty30.1, of_empty30.2] at HG
    simp only at HG
    obtain ⟨m, hm⟩ : ∃ m : Int, m = 2 := ⟨_, rfl⟩
    obtain ⟨s, hs⟩ : ∃ m : Int, m = 0 := ⟨_, rfl⟩
    obtain ⟨er, he⟩ : ∃ m : Int, m = 0 := ⟨_, rfl⟩
    obtain ⟨l, hl'⟩ : ∃ l : List Xt, l = [] := ⟨_, rfl⟩
    have HG2 : Hid (∀ W', Calls Try.prog 53 #[.int .i64 2, .int .i64 0, .slice none 0 0] W' (IRes er m s l W')) := Lib.hid (by rw [hm, hs, he, hl']; exact HG.out)
    rw [show IRes 0 2 0 [] w = IRes er m s l w by rw [hm, hs, he, hl']]
    clear h hn hm hs he hl' hl HG
    go_enter Try.func35, Try.ntmps35
    go_wp2_with (go_at_call 53; refine (HG2.out _).mono ?_; rintro e w1 ⟨a1, c1', rfl, hx, hk⟩; (try simp only at hx); replace HA := Lib.hid (HA.out.kept hk (fun h => h)); have HX := Lib.hid hx; have HK1 := Lib.hid (HK0.out.trans hk (fun _ _ h => h)); clear c0 c1 c2 f0 f1 f2 hx hk; obtain ⟨c0, c1, c2⟩ := HA.out.cells; have f0 := frz3 HA.out 0; have f1 := frz3 HA.out 1; have f2 := frz3 HA.out 2)
    obtain ⟨r0, r1, r2⟩ := cells3 (set3_heap HA.out (.int .i64 m) (.int .i64 s) (.slice a1 l.length c1'))
    exact bodyPost_ret (v := .tuple #[iv28 m s (.slice a1 l.length c1'), .int .i64 er]) (by simp [results, Try.results35, go_sem, r0, r1, r2]) rfl (ires_set (t := 0) _ _ _ (by have hx := HX.out; rw [HSA.out] at hx; exact hx) HK1.out)
  · have hn : node30 i b = got28 b := by unfold node30; rw [if_neg hc]
    rw [hn]
    have HG := Lib.hid (fun W' (h : BSl W' F (.slice a b.length cap) b) => iGet_any _ b F W' h hl)
    obtain ⟨G, hG⟩ : ∃ G, G = got28 b := ⟨_, rfl⟩
    rw [← hG] at HG ⊢
    obtain ⟨er, m, s, l⟩ := G
    simp only at HG ⊢
    have HB := Lib.hid (h.kept (S := NoB) HK0.out (fun _ _ h => h))
    clear hG h hn
    by_cases hi : i = 1
    · have hbz : ¬ b = [] := fun h => hc ⟨hi, h⟩
      have hbl : ¬ b.length = 0 := fun h => hbz (List.eq_nil_of_length_eq_zero h)
      have hb2 : ((b.length : Int) == 0) = false := by simpa using hbl
      have hi2 : (i == 1) = true := by simpa using hi
      clear hc hbz hbl hi
      go_enter Try.func35, Try.ntmps35
      go_wp2_with (go_at_call 9; refine (HG.out _ HB.out).mono ?_; rintro e w1 ⟨a1, c1', rfl, hx, hk⟩; (try simp only at hx); replace HA := Lib.hid (HA.out.kept hk (fun h => h)); have HX := Lib.hid hx; have HK1 := Lib.hid (HK0.out.trans hk (fun _ _ h => h)); clear c0 c1 c2 f0 f1 f2 hx hk; obtain ⟨c0, c1, c2⟩ := HA.out.cells; have f0 := frz3 HA.out 0; have f1 := frz3 HA.out 1; have f2 := frz3 HA.out 2)
      obtain ⟨r0, r1, r2⟩ := cells3 (set3_heap HA.out (.int .i64 m) (.int .i64 s) (.slice a1 l.length c1'))
      exact bodyPost_ret (v := .tuple #[iv28 m s (.slice a1 l.length c1'), .int .i64 er]) (by simp [results, Try.results35, go_sem, r0, r1, r2]) rfl (ires_set (t := 0) _ _ _ (by have hx := HX.out; rw [HSA.out] at hx; exact hx) HK1.out)
    · have hi2 : (i == 1) = false := by simpa using hi
      clear hc hi
      go_enter Try.func35, Try.ntmps35
      go_wp2_with (go_at_call 9; refine (HG.out _ HB.out).mono ?_; rintro e w1 ⟨a1, c1', rfl, hx, hk⟩; (try simp only at hx); replace HA := Lib.hid (HA.out.kept hk (fun h => h)); have HX := Lib.hid hx; have HK1 := Lib.hid (HK0.out.trans hk (fun _ _ h => h)); clear c0 c1 c2 f0 f1 f2 hx hk; obtain ⟨c0, c1, c2⟩ := HA.out.cells; have f0 := frz3 HA.out 0; have f1 := frz3 HA.out 1; have f2 := frz3 HA.out 2)
      obtain ⟨r0, r1, r2⟩ := cells3 (set3_heap HA.out (.int .i64 m) (.int .i64 s) (.slice a1 l.length c1'))
      exact bodyPost_ret (v := .tuple #[iv28 m s (.slice a1 l.length c1'), .int .i64 er]) (by simp [results, Try.results35, go_sem, r0, r1, r2]) rfl (ires_set (t := 0) _ _ _ (by have hx := HX.out; rw [HSA.out] at hx; exact hx) HK1.out)
set_option maxRecDepth 100000 in
theorem rNode30_any (i : Int) (v : Value) (b : List Int) (F : Nat → Prop) (w : World) (h : BSl w F v b) (hl : b.length ≤ 1000000) (hF : ∀ k, F k → k < w.heap.size) :
    Calls Try.prog 36 #[.int .i64 i, v] w (IRes (node30 i b).1 (node30 i b).2.1 (node30 i b).2.2.1 (node30 i b).2.2.2 w) := by
  obtain ⟨a, cap, rfl, _⟩ := id h
  have HK0 := Lib.hid ((Kept.refl NoB w).alloc (.cells #[.int .i64 0, .int .i64 0, .slice none 0 0] 32))
  have HA := Lib.hid (IAt.new 32 w 0 0 (.slice none 0 0))
  obtain ⟨c0, c1, c2⟩ := HA.out.cells
  have f0 := frz3 HA.out 0
  have f1 := frz3 HA.out 1
  have f2 := frz3 HA.out 2
  have HSA : Hid ((w.alloc (.cells #[.int .i64 0, .int .i64 0, .slice none 0 0] 32)).heap.size = w.heap.size + 1) := Lib.hid (by simp)
  by_cases hc : i = 1 ∧ b = []
  · obtain ⟨rfl, rfl⟩ := hc
    have hn : node30 1 [] = (0, 2, 0, []) := by unfold node30; rw [if_pos ⟨rfl, rfl⟩]
    rw [hn]
    simp only
    clear h hn hl hF
    go_enter Try.func36, Try.ntmps36
    go_wp2_with fail
    exact bodyPost_ret (v := .tuple #[iv28 2 0 (.slice none 0 0), .int .i64 0]) (by simp [results, Try.results36, go_sem]) rfl ⟨none, 0, rfl, XSl.nil _ _, (Kept.refl NoB w).alloc _⟩
  · have hn : node30 i b = got28 b := by unfold node30; rw [if_neg hc]
    rw [hn]
    have HG := Lib.hid (fun W' (h : BSl W' F (.slice a b.length cap) b) (hs : w.heap.size ≤ W'.heap.size) => rGet28_any _ b F W' h (fun k hk => Nat.lt_of_lt_of_le (hF k hk) hs))
    obtain ⟨G, hG⟩ : ∃ G, G = got28 b := ⟨_, rfl⟩
    rw [← hG] at HG ⊢
    obtain ⟨er, m, s, l⟩ := G
    simp only at HG ⊢
    have HB := Lib.hid (h.kept (S := NoB) HK0.out (fun _ _ h => h))
    clear hG h hn
    by_cases hi : i = 1
    · have hbz : ¬ b = [] := fun h => hc ⟨hi, h⟩
      have hbl : ¬ b.length = 0 := fun h => hbz (List.eq_nil_of_length_eq_zero h)
      have hb2 : ((b.length : Int) == 0) = false := by simpa using hbl
      have hi2 : (i == 1) = true := by simpa using hi
      clear hc hbz hbl hi
      go_enter Try.func36, Try.ntmps36
      go_wp2_with (go_at_call 10; refine (HG.out _ HB.out (by rw [HSA.out]; omega)).mono ?_; rintro e w1 ⟨a1, c1', rfl, hx, hk⟩; (try simp only at hx); replace HA := Lib.hid (HA.out.kept hk (fun h => h)); have HX := Lib.hid hx; have HK1 := Lib.hid (HK0.out.trans hk (fun _ _ h => h)); clear c0 c1 c2 f0 f1 f2 hx hk; obtain ⟨c0, c1, c2⟩ := HA.out.cells; have f0 := frz3 HA.out 0; have f1 := frz3 HA.out 1; have f2 := frz3 HA.out 2)
      obtain ⟨r0, r1, r2⟩ := cells3 (set3_heap HA.out (.int .i64 m) (.int .i64 s) (.slice a1 l.length c1'))
      exact bodyPost_ret (v := .tuple #[iv28 m s (.slice a1 l.length c1'), .int .i64 er]) (by simp [results, Try.results36, go_sem, r0, r1, r2]) rfl (ires_set (t := 0) _ _ _ (by have hx := HX.out; rw [HSA.out] at hx; exact hx) HK1.out)
    · have hi2 : (i == 1) = false := by simpa using hi
      clear hc hi
      by_cases hbl : b.length = 0
      · have hb2 : ((b.length : Int) == 0) = true := by simpa using hbl
        clear hbl
        go_enter Try.func36, Try.ntmps36
        go_wp2_with (go_at_call 10; refine (HG.out _ HB.out (by rw [HSA.out]; omega)).mono ?_; rintro e w1 ⟨a1, c1', rfl, hx, hk⟩; (try simp only at hx); replace HA := Lib.hid (HA.out.kept hk (fun h => h)); have HX := Lib.hid hx; have HK1 := Lib.hid (HK0.out.trans hk (fun _ _ h => h)); clear c0 c1 c2 f0 f1 f2 hx hk; obtain ⟨c0, c1, c2⟩ := HA.out.cells; have f0 := frz3 HA.out 0; have f1 := frz3 HA.out 1; have f2 := frz3 HA.out 2)
        obtain ⟨r0, r1, r2⟩ := cells3 (set3_heap HA.out (.int .i64 m) (.int .i64 s) (.slice a1 l.length c1'))
        exact bodyPost_ret (v := .tuple #[iv28 m s (.slice a1 l.length c1'), .int .i64 er]) (by simp [results, Try.results36, go_sem, r0, r1, r2]) rfl (ires_set (t := 0) _ _ _ (by have hx := HX.out; rw [HSA.out] at hx; exact hx) HK1.out)
      · have hb2 : ((b.length : Int) == 0) = false := by simpa using hbl
        clear hbl
        go_enter Try.func36, Try.ntmps36
        go_wp2_with (go_at_call 10; refine (HG.out _ HB.out (by rw [HSA.out]; omega)).mono ?_; rintro e w1 ⟨a1, c1', rfl, hx, hk⟩; (try simp only at hx); replace HA := Lib.hid (HA.out.kept hk (fun h => h)); have HX := Lib.hid hx; have HK1 := Lib.hid (HK0.out.trans hk (fun _ _ h => h)); clear c0 c1 c2 f0 f1 f2 hx hk; obtain ⟨c0, c1, c2⟩ := HA.out.cells; have f0 := frz3 HA.out 0; have f1 := frz3 HA.out 1; have f2 := frz3 HA.out 2)
        obtain ⟨r0, r1, r2⟩ := cells3 (set3_heap HA.out (.int .i64 m) (.int .i64 s) (.slice a1 l.length c1'))
        exact bodyPost_ret (v := .tuple #[iv28 m s (.slice a1 l.length c1'), .int .i64 er]) (by simp [results, Try.results36, go_sem, r0, r1, r2]) rfl (ires_set (t := 0) _ _ _ (by have hx := HX.out; rw [HSA.out] at hx; exact hx) HK1.out)
end Go.Proofs.Ytiifkcjngajegaa
