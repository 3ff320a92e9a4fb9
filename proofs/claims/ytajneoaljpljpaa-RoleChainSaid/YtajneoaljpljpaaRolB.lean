/-
  Package role: Head, Tail, inside, Of.
-/
import Derived.Test.YtajneoaljpljpaaRolA
namespace Go.Proofs.Ytajneoaljpljpaa
open Go.RowKit
set_option linter.unusedVariables false

def IntE (r : Int) (w : World) (e : Ending) (w' : World) : Prop := e = .returned (.int .i64 r) ∧ Kept NoB w w'
def headN (c : Cf) : Int := if rgtB c = true then c.ns.getD 0 0 else 0
def tailN (c : Cf) : Int := if rgtB c = true then lastN c else 0
set_option maxRecDepth 100000 in
theorem Head19 (v : Value) (c : Cf) (F : Nat → Prop) (w : World) (h : CfR w F v c) : Calls Try.prog 9 #[v] w (IntE (headN c) w) := by
  obtain ⟨u, rfl, hn, h0, htop⟩ := id h
  obtain ⟨a, cap, rfl, hn1, hn2, _⟩ := id hn
  unfold maxLen at hn2
  have HR := Lib.hid (fun w' (hk : Kept NoB w w') => Right19 _ c F w' (h.no hk))
  have HN := Lib.hid (fun w' (hk : Kept NoB w w') => hn.kept hk (fun _ _ _ h => h))
  have HL : Hid (rgtB c = true → 1 ≤ c.ns.length) := Lib.hid (fun h => (rgt_of h).2.2.2.1)
  have HD : Hid (headN c = if rgtB c = true then c.ns.getD 0 0 else 0) := Lib.hid rfl
  have hb := heap_alloc_new w (.cells #[.int .i64 c.ch, .int .u64 c.ep, .slice a c.ns.length cap, .bool c.fr, .int .i64 c.jn] 25)
  have HK := Lib.hid ((Kept.refl NoB w).alloc (.cells #[.int .i64 c.ch, .int .u64 c.ep, .slice a c.ns.length cap, .bool c.fr, .int .i64 c.jn] 25))
  obtain ⟨r, hr⟩ : ∃ r, r = rgtB c := ⟨_, rfl⟩
  rw [← hr] at HR HL HD
  obtain ⟨d, hd⟩ : ∃ d, d = headN c := ⟨_, rfl⟩
  rw [← hd] at HD ⊢
  obtain ⟨ch, ep, ns, fr, jn⟩ := c
  simp only at HR HN HL HD hb HK hn1 h0 htop ⊢
  have HB := Lib.hid hb
  clear h hn hr hd hb
  go_enter Try.func9, Try.ntmps9
  go_wp2_with fail
  refine (HR.out _ HK.out).mono ?_
  rintro e w1 ⟨rfl, hk⟩
  have HK1 := Lib.hid (HK.out.trans hk (fun _ _ h => h))
  obtain ⟨c0, c1, c2, c3, c4⟩ := cells5 (hk.heap (fun h => h) HB.out)
  clear hk
  cases r with
  | false =>
    go_wp2
    go_ret
    exact ⟨(by rw [HD.out]; rfl), HK1.out⟩
  | true =>
    have hl1 := HL.out rfl
    have hl1i : (0 : Int) < (ns.length : Int) := by omega
    obtain ⟨b, o, rfl, _, _, hc⟩ := (HN.out _ HK1.out).at_ (j := 0) (by omega)
    rw [Nat.add_zero] at hc
    obtain ⟨y, hy⟩ : ∃ y, y = ns.getD 0 0 := ⟨_, rfl⟩
    rw [← hy] at hc HD
    clear hy
    go_wp2
    go_ret
    exact ⟨(by rw [HD.out]; rfl), HK1.out⟩
set_option maxRecDepth 100000 in
theorem RHead19 (v : Value) (c : Cf) (F : Nat → Prop) (w : World) (h : CfR w F v c) : Calls Try.prog 10 #[v] w (IntE (headN c) w) := by
  obtain ⟨u, rfl, hn, h0, htop⟩ := id h
  obtain ⟨a, cap, rfl, hn1, hn2, _⟩ := id hn
  unfold maxLen at hn2
  have HR := Lib.hid (fun w' (hk : Kept NoB w w') => RRight19 _ c F w' (h.no hk))
  have HN := Lib.hid (fun w' (hk : Kept NoB w w') => hn.kept hk (fun _ _ _ h => h))
  have HL : Hid (rgtB c = true → 1 ≤ c.ns.length) := Lib.hid (fun h => (rgt_of h).2.2.2.1)
  have HD : Hid (headN c = if rgtB c = true then c.ns.getD 0 0 else 0) := Lib.hid rfl
  have hb := heap_alloc_new w (.cells #[.int .i64 c.ch, .int .u64 c.ep, .slice a c.ns.length cap, .bool c.fr, .int .i64 c.jn] 25)
  have HK := Lib.hid ((Kept.refl NoB w).alloc (.cells #[.int .i64 c.ch, .int .u64 c.ep, .slice a c.ns.length cap, .bool c.fr, .int .i64 c.jn] 25))
  obtain ⟨r, hr⟩ : ∃ r, r = rgtB c := ⟨_, rfl⟩
  rw [← hr] at HR HL HD
  obtain ⟨d, hd⟩ : ∃ d, d = headN c := ⟨_, rfl⟩
  rw [← hd] at HD ⊢
  obtain ⟨ch, ep, ns, fr, jn⟩ := c
  simp only at HR HN HL HD hb HK hn1 h0 htop ⊢
  have HB := Lib.hid hb
  clear h hn hr hd hb
  go_enter Try.func10, Try.ntmps10
  go_wp2_with fail
  refine (HR.out _ HK.out).mono ?_
  rintro e w1 ⟨rfl, hk⟩
  have HK1 := Lib.hid (HK.out.trans hk (fun _ _ h => h))
  obtain ⟨c0, c1, c2, c3, c4⟩ := cells5 (hk.heap (fun h => h) HB.out)
  clear hk
  cases r with
  | false =>
    go_wp2
    go_ret
    exact ⟨(by rw [HD.out]; rfl), HK1.out⟩
  | true =>
    have hl1 := HL.out rfl
    have hl1i : (0 : Int) < (ns.length : Int) := by omega
    obtain ⟨b, o, rfl, _, _, hc⟩ := (HN.out _ HK1.out).at_ (j := 0) (by omega)
    rw [Nat.add_zero] at hc
    obtain ⟨y, hy⟩ : ∃ y, y = ns.getD 0 0 := ⟨_, rfl⟩
    rw [← hy] at hc HD
    clear hy
    go_wp2
    go_ret
    exact ⟨(by rw [HD.out]; rfl), HK1.out⟩
set_option maxRecDepth 100000 in
theorem Tail19 (v : Value) (c : Cf) (F : Nat → Prop) (w : World) (h : CfR w F v c) : Calls Try.prog 11 #[v] w (IntE (tailN c) w) := by
  obtain ⟨u, rfl, hn, h0, htop⟩ := id h
  obtain ⟨a, cap, rfl, hn1, hn2, _⟩ := id hn
  unfold maxLen at hn2
  have HR := Lib.hid (fun w' (hk : Kept NoB w w') => Right19 _ c F w' (h.no hk))
  have HN := Lib.hid (fun w' (hk : Kept NoB w w') => hn.kept hk (fun _ _ _ h => h))
  have HL : Hid (rgtB c = true → 1 ≤ c.ns.length) := Lib.hid (fun h => (rgt_of h).2.2.2.1)
  have HD : Hid (tailN c = if rgtB c = true then c.ns.getD (c.ns.length - 1) 0 else 0) := Lib.hid rfl
  have hb := heap_alloc_new w (.cells #[.int .i64 c.ch, .int .u64 c.ep, .slice a c.ns.length cap, .bool c.fr, .int .i64 c.jn] 25)
  have HK := Lib.hid ((Kept.refl NoB w).alloc (.cells #[.int .i64 c.ch, .int .u64 c.ep, .slice a c.ns.length cap, .bool c.fr, .int .i64 c.jn] 25))
  obtain ⟨r, hr⟩ : ∃ r, r = rgtB c := ⟨_, rfl⟩
  rw [← hr] at HR HL HD
  obtain ⟨d, hd⟩ : ∃ d, d = tailN c := ⟨_, rfl⟩
  rw [← hd] at HD ⊢
  obtain ⟨ch, ep, ns, fr, jn⟩ := c
  simp only at HR HN HL HD hb HK hn1 h0 htop ⊢
  have HB := Lib.hid hb
  clear h hn hr hd hb
  go_enter Try.func11, Try.ntmps11
  go_wp2_with fail
  refine (HR.out _ HK.out).mono ?_
  rintro e w1 ⟨rfl, hk⟩
  have HK1 := Lib.hid (HK.out.trans hk (fun _ _ h => h))
  obtain ⟨c0, c1, c2, c3, c4⟩ := cells5 (hk.heap (fun h => h) HB.out)
  clear hk
  cases r with
  | false =>
    go_wp2
    go_ret
    exact ⟨(by rw [HD.out]; rfl), HK1.out⟩
  | true =>
    have hl1 := HL.out rfl
    obtain ⟨b, o, rfl, _, _, hc⟩ := (HN.out _ HK1.out).at_ (j := ns.length - 1) (by omega)
    obtain ⟨y, hy⟩ : ∃ y, y = ns.getD (ns.length - 1) 0 := ⟨_, rfl⟩
    rw [← hy] at hc HD
    obtain ⟨m, hm⟩ : ∃ m, m = ns.length - 1 := ⟨_, rfl⟩
    rw [← hm] at hc
    have hmi : (ns.length : Int) - 1 = (m : Int) := by omega
    have hm1 : (m : Int) < (ns.length : Int) := by omega
    have hm0 : (0 : Int) ≤ (m : Int) := by omega
    clear hy hm
    go_wp2
    go_ret
    exact ⟨(by rw [HD.out]; rfl), HK1.out⟩
set_option maxRecDepth 100000 in
theorem RTail19 (v : Value) (c : Cf) (F : Nat → Prop) (w : World) (h : CfR w F v c) : Calls Try.prog 12 #[v] w (IntE (tailN c) w) := by
  obtain ⟨u, rfl, hn, h0, htop⟩ := id h
  obtain ⟨a, cap, rfl, hn1, hn2, _⟩ := id hn
  unfold maxLen at hn2
  have HR := Lib.hid (fun w' (hk : Kept NoB w w') => RRight19 _ c F w' (h.no hk))
  have HN := Lib.hid (fun w' (hk : Kept NoB w w') => hn.kept hk (fun _ _ _ h => h))
  have HL : Hid (rgtB c = true → 1 ≤ c.ns.length) := Lib.hid (fun h => (rgt_of h).2.2.2.1)
  have HD : Hid (tailN c = if rgtB c = true then c.ns.getD (c.ns.length - 1) 0 else 0) := Lib.hid rfl
  have hb := heap_alloc_new w (.cells #[.int .i64 c.ch, .int .u64 c.ep, .slice a c.ns.length cap, .bool c.fr, .int .i64 c.jn] 25)
  have HK := Lib.hid ((Kept.refl NoB w).alloc (.cells #[.int .i64 c.ch, .int .u64 c.ep, .slice a c.ns.length cap, .bool c.fr, .int .i64 c.jn] 25))
  obtain ⟨r, hr⟩ : ∃ r, r = rgtB c := ⟨_, rfl⟩
  rw [← hr] at HR HL HD
  obtain ⟨d, hd⟩ : ∃ d, d = tailN c := ⟨_, rfl⟩
  rw [← hd] at HD ⊢
  obtain ⟨ch, ep, ns, fr, jn⟩ := c
  simp only at HR HN HL HD hb HK hn1 h0 htop ⊢
  have HB := Lib.hid hb
  clear h hn hr hd hb
  go_enter Try.func12, Try.ntmps12
  go_wp2_with fail
  refine (HR.out _ HK.out).mono ?_
  rintro e w1 ⟨rfl, hk⟩
  have HK1 := Lib.hid (HK.out.trans hk (fun _ _ h => h))
  obtain ⟨c0, c1, c2, c3, c4⟩ := cells5 (hk.heap (fun h => h) HB.out)
  clear hk
  cases r with
  | false =>
    go_wp2
    go_ret
    exact ⟨(by rw [HD.out]; rfl), HK1.out⟩
  | true =>
    have hl1 := HL.out rfl
    obtain ⟨b, o, rfl, _, _, hc⟩ := (HN.out _ HK1.out).at_ (j := ns.length - 1) (by omega)
    obtain ⟨y, hy⟩ : ∃ y, y = ns.getD (ns.length - 1) 0 := ⟨_, rfl⟩
    rw [← hy] at hc HD
    obtain ⟨m, hm⟩ : ∃ m, m = ns.length - 1 := ⟨_, rfl⟩
    rw [← hm] at hc
    have hmi : (ns.length : Int) - 1 = (m : Int) := by omega
    have hm1 : (m : Int) < (ns.length : Int) := by omega
    have hm0 : (0 : Int) ≤ (m : Int) := by omega
    clear hy hm
    go_wp2
    go_ret
    exact ⟨(by rw [HD.out]; rfl), HK1.out⟩
end Go.Proofs.Ytajneoaljpljpaa
