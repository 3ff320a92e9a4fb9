/-
  Package conf and its answer: who is settled; whether two are the same.
-/
import Derived.Test.YtajneoaljpljpaaCnfP
namespace Go.Proofs.Ytajneoaljpljpaa
open Go.RowKit
set_option linter.unusedVariables false

set_option maxRecDepth 100000 in
set_option maxHeartbeats 1000000 in
theorem Settled_any (v : Value) (c : Cf) (F : Nat → Prop) (w : World) (h : CfV w F v c) : Calls Try.prog 28 #[v] w (ListEnd F c.set w) := by
  obtain ⟨u, rfl, hn, _, _, hl⟩ := id h
  obtain ⟨a, cap, rfl, _⟩ := id hn
  have HR := Lib.hid (fun w' (hk : Kept NoB w w') => Right_any _ c F w' (h.kept hk (fun _ _ _ h => h)))
  have HCL := Lib.hid (fun w' (hk : Kept NoB w w') => CloneN_any _ c.ns F w' (hn.kept hk (fun _ _ _ h => h)) hl)
  have HS : Hid (c.set = if rgtB c = true then (if c.fr then c.ns.take (c.ns.length - 1) else c.ns) else []) := Lib.hid (by unfold Cf.set rgtB; simp)
  have HR4 : Hid (rgtB c = true → 1 ≤ c.ns.length) := Lib.hid (fun h => (of_decide_eq_true h : Rgt c).2.2.2.1)
  obtain ⟨r, hr⟩ : ∃ r, r = rgtB c := ⟨_, rfl⟩
  rw [← hr] at HR HS HR4
  obtain ⟨S, hS⟩ : ∃ S, S = c.set := ⟨_, rfl⟩
  rw [← hS] at HS ⊢
  obtain ⟨ch, hch⟩ : ∃ x, x = c.ch := ⟨_, rfl⟩
  obtain ⟨ep, hep⟩ : ∃ x, x = c.ep := ⟨_, rfl⟩
  obtain ⟨fr, hfr⟩ : ∃ x, x = c.fr := ⟨_, rfl⟩
  obtain ⟨jn, hjn⟩ : ∃ x, x = c.jn := ⟨_, rfl⟩
  obtain ⟨ns, hns⟩ : ∃ x, x = c.ns := ⟨_, rfl⟩
  rw [← hch, ← hep, ← hfr, ← hjn, ← hns] at HR ⊢
  rw [← hns, ← hfr] at HS
  rw [← hns] at HCL HR4 hl
  have HK0 := Lib.hid ((Kept.refl NoB w).alloc (.cells #[.int .i64 ch, .int .u64 ep, .slice a ns.length cap, .bool fr, .int .i64 jn] 25))
  have HB0 := Lib.hid (heap_alloc_new w (.cells #[.int .i64 ch, .int .u64 ep, .slice a ns.length cap, .bool fr, .int .i64 jn] 25))
  clear h hn hr hS hch hep hfr hjn hns
  cases r with
  | false =>
    have HS' : Hid (S = []) := Lib.hid (by rw [HS.out]; rfl)
    go_enter Try.func28, Try.ntmps28
    go_wp2_with fail
    refine (HR.out _ HK0.out).mono ?_
    rintro e w1 ⟨rfl, hk⟩
    have HK1 := Lib.hid (HK0.out.trans hk (fun _ _ h => h))
    clear hk
    go_wp2
    go_ret
    exact ⟨_, rfl, by rw [HS'.out]; exact NSl.nil _ _, HK1.out⟩
  | true =>
    have h1 : 1 ≤ ns.length := HR4.out rfl
    have h1i : (1 : Int) ≤ (ns.length : Int) := by omega
    cases fr with
    | false =>
      have HS' : Hid (S = ns) := Lib.hid (by rw [HS.out]; rfl)
      go_enter Try.func28, Try.ntmps28
      go_wp2_with fail
      refine (HR.out _ HK0.out).mono ?_
      rintro e w1 ⟨rfl, hk⟩
      have HK1 := Lib.hid (HK0.out.trans hk (fun _ _ h => h))
      have HB1 := Lib.hid (hk.heap (fun h => h) HB0.out)
      obtain ⟨c0, c1, c2, c3, c4⟩ := cells5 HB1.out
      clear hk
      go_wp2_with fail
      refine (HCL.out _ HK1.out).mono ?_
      rintro e w2 ⟨v', rfl, hown, hk⟩
      have HK2 := Lib.hid (HK1.out.trans hk (fun _ _ h => h))
      have HN := Lib.hid (hown.nslB.mono (G := fun k => F k ∨ w.heap.size ≤ k) (fun i _ hi => .inr (by have := HK1.out.size; have hi : w1.heap.size ≤ i := hi; omega)))
      obtain ⟨va, vc, rfl⟩ := hown.form
      have HB2 := hk.heap (fun h => h) HB1.out
      clear hk hown c0 c1 c2 c3 c4
      obtain ⟨c0, c1, c2, c3, c4⟩ := cells5 HB2
      clear HB2
      go_wp2
      go_ret
      exact ⟨_, rfl, by rw [HS'.out]; exact HN.out, HK2.out⟩
    | true =>
      have HS' : Hid (S = ns.take (ns.length - 1)) := Lib.hid (by rw [HS.out]; rfl)
      obtain ⟨m, hm⟩ : ∃ m, m = ns.length - 1 := ⟨_, rfl⟩
      rw [← hm] at HS'
      have hmi : (ns.length : Int) - 1 = (m : Int) := by omega
      have HMI := Lib.hid hmi
      have hmle : (m : Int) ≤ (ns.length : Int) := by omega
      have hm2 : m ≤ ns.length := by omega
      clear hm hmi
      go_enter Try.func28, Try.ntmps28
      go_wp2_with fail
      refine (HR.out _ HK0.out).mono ?_
      rintro e w1 ⟨rfl, hk⟩
      have HK1 := Lib.hid (HK0.out.trans hk (fun _ _ h => h))
      have HB1 := Lib.hid (hk.heap (fun h => h) HB0.out)
      obtain ⟨c0, c1, c2, c3, c4⟩ := cells5 HB1.out
      clear hk
      go_wp2_with fail
      refine (HCL.out _ HK1.out).mono ?_
      rintro e w2 ⟨v', rfl, hown, hk⟩
      have HK2 := Lib.hid (HK1.out.trans hk (fun _ _ h => h))
      have HN0 := Lib.hid (hown.nslB.mono (G := fun k => F k ∨ w.heap.size ≤ k) (fun i _ hi => .inr (by have := HK1.out.size; have hi : w1.heap.size ≤ i := hi; omega)))
      obtain ⟨va, vc, rfl⟩ := hown.form
      have HN := Lib.hid (nsl_take HN0.out (k := m) hm2)
      have hvc := HN0.out.len.2.1
      have HB2 := hk.heap (fun h => h) HB1.out
      clear hk hown c0 c1 c2 c3 c4
      obtain ⟨c0, c1, c2, c3, c4⟩ := cells5 HB2
      clear HB2
      have hmi := HMI.out
      go_wp2
      go_ret
      exact ⟨_, rfl, by rw [HS'.out]; exact HN.out, HK2.out⟩
set_option maxRecDepth 100000 in
set_option maxHeartbeats 1000000 in
theorem RSettled_any (v : Value) (c : Cf) (F : Nat → Prop) (w : World) (h : CfV w F v c) : Calls Try.prog 30 #[v] w (ListEnd F c.set w) := by
  obtain ⟨u, rfl, hn, _, _, hl⟩ := id h
  obtain ⟨a, cap, rfl, _⟩ := id hn
  have HR := Lib.hid (fun w' (hk : Kept NoB w w') => RRight_any _ c F w' (h.kept hk (fun _ _ _ h => h)))
  have HN0 := Lib.hid (fun w' (hk : Kept NoB w w') => hn.kept hk (fun _ _ _ h => h))
  have HS : Hid (c.set = if rgtB c = true then (if c.fr then c.ns.take (c.ns.length - 1) else c.ns) else []) := Lib.hid (by unfold Cf.set rgtB; simp)
  have HR4 : Hid (rgtB c = true → 1 ≤ c.ns.length) := Lib.hid (fun h => (of_decide_eq_true h : Rgt c).2.2.2.1)
  obtain ⟨r, hr⟩ : ∃ r, r = rgtB c := ⟨_, rfl⟩
  rw [← hr] at HR HS HR4
  obtain ⟨S, hS⟩ : ∃ S, S = c.set := ⟨_, rfl⟩
  rw [← hS] at HS ⊢
  obtain ⟨ch, hch⟩ : ∃ x, x = c.ch := ⟨_, rfl⟩
  obtain ⟨ep, hep⟩ : ∃ x, x = c.ep := ⟨_, rfl⟩
  obtain ⟨fr, hfr⟩ : ∃ x, x = c.fr := ⟨_, rfl⟩
  obtain ⟨jn, hjn⟩ : ∃ x, x = c.jn := ⟨_, rfl⟩
  obtain ⟨ns, hns⟩ : ∃ x, x = c.ns := ⟨_, rfl⟩
  rw [← hch, ← hep, ← hfr, ← hjn, ← hns] at HR ⊢
  rw [← hns, ← hfr] at HS
  rw [← hns] at HN0 HR4 hl
  have hcap : ns.length ≤ cap := by rw [hns]; exact hn.len.2.1
  have HK0 := Lib.hid ((Kept.refl NoB w).alloc (.cells #[.int .i64 ch, .int .u64 ep, .slice a ns.length cap, .bool fr, .int .i64 jn] 25))
  have HB0 := Lib.hid (heap_alloc_new w (.cells #[.int .i64 ch, .int .u64 ep, .slice a ns.length cap, .bool fr, .int .i64 jn] 25))
  clear h hn hr hS hch hep hfr hjn hns
  cases r with
  | false =>
    have HS' : Hid (S = []) := Lib.hid (by rw [HS.out]; rfl)
    go_enter Try.func30, Try.ntmps30
    go_wp2_with fail
    refine (HR.out _ HK0.out).mono ?_
    rintro e w1 ⟨rfl, hk⟩
    have HK1 := Lib.hid (HK0.out.trans hk (fun _ _ h => h))
    clear hk
    go_wp2
    go_ret
    exact ⟨_, rfl, by rw [HS'.out]; exact NSl.nil _ _, HK1.out⟩
  | true =>
    have h1 : 1 ≤ ns.length := HR4.out rfl
    have h1i : (1 : Int) ≤ (ns.length : Int) := by omega
    cases fr with
    | false =>
      have HS' : Hid (S = ns.take ns.length) := Lib.hid (by rw [HS.out, List.take_length]; rfl)
      have hmle : (ns.length : Int) ≤ (cap : Int) := by omega
      go_enter Try.func30, Try.ntmps30
      go_wp2_with fail
      refine (HR.out _ HK0.out).mono ?_
      rintro e w1 ⟨rfl, hk⟩
      have HK1 := Lib.hid (HK0.out.trans hk (fun _ _ h => h))
      have HB1 := Lib.hid (hk.heap (fun h => h) HB0.out)
      obtain ⟨c0, c1, c2, c3, c4⟩ := cells5 HB1.out
      clear hk
      go_wp2
      go_ret
      exact ⟨_, rfl, by rw [HS'.out]; exact (nsl_take (HN0.out _ HK1.out) (Nat.le_refl _)).mono (fun _ _ h => .inl h), HK1.out⟩
    | true =>
      have HS' : Hid (S = ns.take (ns.length - 1)) := Lib.hid (by rw [HS.out]; rfl)
      obtain ⟨m, hm⟩ : ∃ m, m = ns.length - 1 := ⟨_, rfl⟩
      rw [← hm] at HS'
      have hmi : (ns.length : Int) - 1 = (m : Int) := by omega
      have hmle : (m : Int) ≤ (cap : Int) := by omega
      have hm2 : m ≤ ns.length := by omega
      have HMI := Lib.hid hmi
      clear hm hmi
      go_enter Try.func30, Try.ntmps30
      go_wp2_with fail
      refine (HR.out _ HK0.out).mono ?_
      rintro e w1 ⟨rfl, hk⟩
      have HK1 := Lib.hid (HK0.out.trans hk (fun _ _ h => h))
      have HB1 := Lib.hid (hk.heap (fun h => h) HB0.out)
      obtain ⟨c0, c1, c2, c3, c4⟩ := cells5 HB1.out
      clear hk
      have hmi := HMI.out
      go_wp2
      go_ret
      exact ⟨_, rfl, by rw [HS'.out]; exact (nsl_take (HN0.out _ HK1.out) hm2).mono (fun _ _ h => .inl h), HK1.out⟩
end Go.Proofs.Ytajneoaljpljpaa
