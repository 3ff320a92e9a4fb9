/-
  The page's example of roles; the walk of RoleIs. Package role and the chapter: Newer, Missing.
-/
import Derived.Test.YtpgchapemclocaaRol1
namespace Go.Proofs.Ytpgchapemclocaa
open Go.RowKit
set_option linter.unusedVariables false
set_option linter.unusedSimpArgs false

def AnyC : Nat → Prop := fun _ => True
/-- The example's configuration. -/
def exC : Cf := ⟨0, 1, [1, 2, 3], false, 4⟩
theorem exC_rl : rlOf exC 3 = ⟨true, false, false, true, false, 2, 2, 4⟩ := by
  unfold rlOf
  rw [if_pos (show rgtB exC = true by decide), if_pos (show (3 : Int) ∈ exC.ns by decide), show plc exC.ns 3 = 2 by decide]
  rfl
end Go.Proofs.Ytpgchapemclocaa
namespace Go.Proofs.Ytpgchapemclocaa
open Go.RowKit
set_option linter.unusedVariables false
set_option linter.unusedSimpArgs false

def newB (o c : Cf) : Bool := rgtB c && (decide (o.ch = c.ch) && decide (o.ep < c.ep))
set_option maxRecDepth 100000 in
set_option maxHeartbeats 1000000 in
theorem Newer19 (v u : Value) (o c : Cf) (w : World) (ho : CfR w AnyC v o) (h : CfR w AnyC u c) : Calls Try.prog 39 #[v, u] w (BoolE (newB o c) w) := by
  have HR := Lib.hid (fun w' (hk : Kept NoB w w') => Right19 _ c AnyC w' (h.no hk))
  have HD : Hid (newB o c = (rgtB c && (decide (o.ch = c.ch) && decide (o.ep < c.ep)))) := Lib.hid rfl
  obtain ⟨u1, rfl, hn, h0, htop⟩ := h
  obtain ⟨a, cap, rfl, hn1, hn2, _⟩ := hn
  obtain ⟨u2, rfl, hn', h0', htop'⟩ := ho
  obtain ⟨a', cap', rfl, hn1', hn2', _⟩ := hn'
  obtain ⟨d, hd⟩ : ∃ d, d = newB o c := ⟨_, rfl⟩
  rw [← hd] at HD ⊢
  obtain ⟨r, hr⟩ : ∃ r, r = rgtB c := ⟨_, rfl⟩
  rw [← hr] at HR HD
  obtain ⟨ch, ep, ns, fr, jn⟩ := c
  obtain ⟨ch', ep', ns', fr', jn'⟩ := o
  simp only at HR HD h0 htop h0' htop' ⊢
  obtain ⟨m, hm⟩ : ∃ m, m = ns.length := ⟨_, rfl⟩
  obtain ⟨m', hm'⟩ : ∃ m, m = ns'.length := ⟨_, rfl⟩
  rw [← hm] at HR ⊢
  rw [← hm']
  clear hd hr hm hm' hn1 hn2 hn1' hn2'
  have hb1 := heap_alloc_new w (.cells #[.int .i64 ch', .int .u64 ep', .slice a' m' cap', .bool fr', .int .i64 jn'] 33)
  obtain ⟨V, hV⟩ : ∃ V, V = (w.alloc (.cells #[.int .i64 ch', .int .u64 ep', .slice a' m' cap', .bool fr', .int .i64 jn'] 33)).alloc (.cells #[.int .i64 ch, .int .u64 ep, .slice a m cap, .bool fr, .int .i64 jn] 33) := ⟨_, rfl⟩
  have HB1 : Hid (V.heap[w.heap.size]? = some (.cells #[.int .i64 ch', .int .u64 ep', .slice a' m' cap', .bool fr', .int .i64 jn'] 33 (0, 0))) := Lib.hid (by rw [hV]; exact balloc19 hb1 _)
  have HB2 : Hid (V.heap[w.heap.size + 1]? = some (.cells #[.int .i64 ch, .int .u64 ep, .slice a m cap, .bool fr, .int .i64 jn] 33 (0, 0))) := Lib.hid (by
    have := heap_alloc_new (w.alloc (.cells #[.int .i64 ch', .int .u64 ep', .slice a' m' cap', .bool fr', .int .i64 jn'] 33)) (.cells #[.int .i64 ch, .int .u64 ep, .slice a m cap, .bool fr, .int .i64 jn] 33)
    rw [show (w.alloc (.cells #[.int .i64 ch', .int .u64 ep', .slice a' m' cap', .bool fr', .int .i64 jn'] 33)).heap.size = w.heap.size + 1 by simp] at this
    rw [hV]; exact this)
  have HK : Hid (Kept NoB w V) := Lib.hid (by rw [hV]; exact ((Kept.refl _ _).alloc _).alloc _)
  have HV := Lib.hid hV
  clear hb1 hV
  go_enter Try.func39, Try.ntmps39
  go_wp2_with fail
  rw [← HV.out]
  refine (HR.out _ HK.out).mono ?_
  rintro e w1 ⟨rfl, hk⟩
  have HK1 := Lib.hid (HK.out.trans hk (fun _ _ h => h))
  obtain ⟨c0, c1, c2, c3, c4⟩ := cells5 (hk.heap (fun h => h) HB1.out)
  obtain ⟨d0, d1, d2, d3, d4⟩ := cells5 (hk.heap (fun h => h) HB2.out)
  clear hk
  cases r with
  | false =>
    go_wp2
    go_ret
    exact ⟨(by rw [HD.out] <;> rfl), HK1.out⟩
  | true =>
    by_cases h1 : ch' = ch
    · subst h1
      by_cases h2 : ep' < ep
      · have HE : Hid (d = true) := Lib.hid (by rw [HD.out]; simp [h2])
        have h2d : decide (ep' < ep) = true := decide_eq_true h2
        clear HD
        go_wp2
        go_ret
        exact ⟨(by rw [HE.out] <;> rfl), HK1.out⟩
      · have HE : Hid (d = false) := Lib.hid (by rw [HD.out]; simp [h2])
        have h2d : decide (ep' < ep) = false := decide_eq_false h2
        clear HD
        go_wp2
        go_ret
        exact ⟨(by rw [HE.out] <;> rfl), HK1.out⟩
    · have HE : Hid (d = false) := Lib.hid (by rw [HD.out]; simp [h1])
      have h1b : (ch' == ch) = false := beq_eq_false_iff_ne.2 h1
      have h1c : (ch == ch') = false := beq_eq_false_iff_ne.2 (fun e => h1 e.symm)
      clear HD h1
      go_wp2
      go_ret
      exact ⟨(by rw [HE.out] <;> rfl), HK1.out⟩
set_option maxRecDepth 100000 in
set_option maxHeartbeats 1000000 in
theorem RNewer19 (v u : Value) (o c : Cf) (w : World) (ho : CfR w AnyC v o) (h : CfR w AnyC u c) : Calls Try.prog 37 #[v, u] w (BoolE (newB o c) w) := by
  have HR := Lib.hid (fun w' (hk : Kept NoB w w') => RRight19 _ c AnyC w' (h.no hk))
  have HD : Hid (newB o c = (rgtB c && (decide (o.ch = c.ch) && decide (o.ep < c.ep)))) := Lib.hid rfl
  obtain ⟨u1, rfl, hn, h0, htop⟩ := h
  obtain ⟨a, cap, rfl, hn1, hn2, _⟩ := hn
  obtain ⟨u2, rfl, hn', h0', htop'⟩ := ho
  obtain ⟨a', cap', rfl, hn1', hn2', _⟩ := hn'
  obtain ⟨d, hd⟩ : ∃ d, d = newB o c := ⟨_, rfl⟩
  rw [← hd] at HD ⊢
  obtain ⟨r, hr⟩ : ∃ r, r = rgtB c := ⟨_, rfl⟩
  rw [← hr] at HR HD
  obtain ⟨ch, ep, ns, fr, jn⟩ := c
  obtain ⟨ch', ep', ns', fr', jn'⟩ := o
  simp only at HR HD h0 htop h0' htop' ⊢
  obtain ⟨m, hm⟩ : ∃ m, m = ns.length := ⟨_, rfl⟩
  obtain ⟨m', hm'⟩ : ∃ m, m = ns'.length := ⟨_, rfl⟩
  rw [← hm] at HR ⊢
  rw [← hm']
  clear hd hr hm hm' hn1 hn2 hn1' hn2'
  have hb1 := heap_alloc_new w (.cells #[.int .i64 ch', .int .u64 ep', .slice a' m' cap', .bool fr', .int .i64 jn'] 33)
  obtain ⟨V, hV⟩ : ∃ V, V = (w.alloc (.cells #[.int .i64 ch', .int .u64 ep', .slice a' m' cap', .bool fr', .int .i64 jn'] 33)).alloc (.cells #[.int .i64 ch, .int .u64 ep, .slice a m cap, .bool fr, .int .i64 jn] 33) := ⟨_, rfl⟩
  have HB1 : Hid (V.heap[w.heap.size]? = some (.cells #[.int .i64 ch', .int .u64 ep', .slice a' m' cap', .bool fr', .int .i64 jn'] 33 (0, 0))) := Lib.hid (by rw [hV]; exact balloc19 hb1 _)
  have HB2 : Hid (V.heap[w.heap.size + 1]? = some (.cells #[.int .i64 ch, .int .u64 ep, .slice a m cap, .bool fr, .int .i64 jn] 33 (0, 0))) := Lib.hid (by
    have := heap_alloc_new (w.alloc (.cells #[.int .i64 ch', .int .u64 ep', .slice a' m' cap', .bool fr', .int .i64 jn'] 33)) (.cells #[.int .i64 ch, .int .u64 ep, .slice a m cap, .bool fr, .int .i64 jn] 33)
    rw [show (w.alloc (.cells #[.int .i64 ch', .int .u64 ep', .slice a' m' cap', .bool fr', .int .i64 jn'] 33)).heap.size = w.heap.size + 1 by simp] at this
    rw [hV]; exact this)
  have HK : Hid (Kept NoB w V) := Lib.hid (by rw [hV]; exact ((Kept.refl _ _).alloc _).alloc _)
  have HV := Lib.hid hV
  clear hb1 hV
  go_enter Try.func37, Try.ntmps37
  go_wp2_with fail
  rw [← HV.out]
  refine (HR.out _ HK.out).mono ?_
  rintro e w1 ⟨rfl, hk⟩
  have HK1 := Lib.hid (HK.out.trans hk (fun _ _ h => h))
  obtain ⟨c0, c1, c2, c3, c4⟩ := cells5 (hk.heap (fun h => h) HB1.out)
  obtain ⟨d0, d1, d2, d3, d4⟩ := cells5 (hk.heap (fun h => h) HB2.out)
  clear hk
  cases r with
  | false =>
    go_wp2
    go_ret
    exact ⟨(by rw [HD.out] <;> rfl), HK1.out⟩
  | true =>
    by_cases h1 : ch' = ch
    · subst h1
      by_cases h2 : ep' < ep
      · have HE : Hid (d = true) := Lib.hid (by rw [HD.out]; simp [h2])
        have h2d : decide (ep' < ep) = true := decide_eq_true h2
        clear HD
        go_wp2
        go_ret
        exact ⟨(by rw [HE.out] <;> rfl), HK1.out⟩
      · have HE : Hid (d = false) := Lib.hid (by rw [HD.out]; simp [h2])
        have h2d : decide (ep' < ep) = false := decide_eq_false h2
        clear HD
        go_wp2
        go_ret
        exact ⟨(by rw [HE.out] <;> rfl), HK1.out⟩
    · have HE : Hid (d = false) := Lib.hid (by rw [HD.out]; simp [h1])
      have h1b : (ch' == ch) = false := beq_eq_false_iff_ne.2 h1
      have h1c : (ch == ch') = false := beq_eq_false_iff_ne.2 (fun e => h1 e.symm)
      clear HD h1
      go_wp2
      go_ret
      exact ⟨(by rw [HE.out] <;> rfl), HK1.out⟩
/-- Are all settled nodes down? -/
def missB (c : Cf) (l : List Int) : Bool := c.set.all (fun n => decide (n ∈ l))
theorem miss_not (l : List Int) (m : List Int) : (!(m.any fun x => !decide (x ∈ l))) = m.all (fun n => decide (n ∈ l)) := by
  induction m with
  | nil => rfl
  | cons x m ih => simp only [List.any_cons, List.all_cons, ← ih]; cases decide (x ∈ l) <;> simp
end Go.Proofs.Ytpgchapemclocaa
