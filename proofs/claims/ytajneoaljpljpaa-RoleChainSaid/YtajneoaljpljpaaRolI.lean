/-
  Package role and the chapter: Reader, Newer.
-/
import Derived.Test.YtajneoaljpljpaaRolF
import Derived.Test.YtajneoaljpljpaaRolH
namespace Go.Proofs.Ytajneoaljpljpaa
open Go.RowKit
set_option linter.unusedVariables false
set_option linter.unusedSimpArgs false

def readN (c : Cf) (p : Int) : Int := if rgtB c = true then c.ns.getD ((if p < 0 then 0 else p.toNat) % c.ns.length) 0 else 0
set_option maxRecDepth 100000 in
theorem Reader19 (v : Value) (c : Cf) (p : Int) (hp : p ≤ 9223372036854775807) (F : Nat → Prop) (w : World) (h : CfR w F v c) : Calls Try.prog 13 #[v, .int .i64 p] w (IntE (readN c p) w) := by
  obtain ⟨u, rfl, hn, h0, htop⟩ := id h
  obtain ⟨a, cap, rfl, hn1, hn2, _⟩ := id hn
  unfold maxLen at hn2
  have HR := Lib.hid (fun w' (hk : Kept NoB w w') => Right19 _ c F w' (h.no hk))
  have HN := Lib.hid (fun w' (hk : Kept NoB w w') => hn.kept hk (fun _ _ _ h => h))
  have HL : Hid (rgtB c = true → 1 ≤ c.ns.length ∧ c.ns.length ≤ 5) := Lib.hid len_pos
  have HD : Hid (readN c p = if rgtB c = true then c.ns.getD ((if p < 0 then 0 else p.toNat) % c.ns.length) 0 else 0) := Lib.hid rfl
  have hb := heap_alloc_new w (.cells #[.int .i64 c.ch, .int .u64 c.ep, .slice a c.ns.length cap, .bool c.fr, .int .i64 c.jn] 25)
  have HK := Lib.hid ((Kept.refl NoB w).alloc (.cells #[.int .i64 c.ch, .int .u64 c.ep, .slice a c.ns.length cap, .bool c.fr, .int .i64 c.jn] 25))
  obtain ⟨r, hr⟩ : ∃ r, r = rgtB c := ⟨_, rfl⟩
  rw [← hr] at HR HL HD
  obtain ⟨d, hd⟩ : ∃ d, d = readN c p := ⟨_, rfl⟩
  rw [← hd] at HD ⊢
  obtain ⟨ch, ep, ns, fr, jn⟩ := c
  simp only at HR HN HL HD hb HK hn1 h0 htop ⊢
  have HB := Lib.hid hb
  clear h hn hr hd hb
  go_enter Try.func13, Try.ntmps13
  go_wp2_with fail
  refine (HR.out _ HK.out).mono ?_
  rintro e w1 ⟨rfl, hk⟩
  have HK1 := Lib.hid (HK.out.trans hk (fun _ _ h => h))
  obtain ⟨c0, c1, c2, c3, c4⟩ := cells5 (hk.heap (fun h => h) HB.out)
  clear hk
  cases r with
  | false =>
    go_wp2
    go_ret
    exact ⟨(by rw [HD.out] <;> rfl), HK1.out⟩
  | true =>
    have hl := HL.out (by trivial)
    have hl1 : (1 : Int) ≤ (ns.length : Int) := by omega
    have hz : ¬ (ns.length : Int) = 0 := by omega
    have hzb : ((ns.length : Int) == 0) = false := beq_eq_false_iff_ne.2 hz
    have hnil : ¬ ns = [] := fun h => by rw [h] at hl; exact absurd hl.1 (by decide)
    by_cases hp0 : p < 0
    · obtain ⟨b, o, rfl, _, _, hc⟩ := (HN.out _ HK1.out).at_ (j := 0) (by omega)
      rw [Nat.add_zero] at hc
      rw [if_pos (by trivial), if_pos hp0, Nat.zero_mod] at HD
      obtain ⟨y, hy⟩ : ∃ y, y = ns.getD 0 0 := ⟨_, rfl⟩
      rw [← hy] at hc HD
      have hki : (0 : Int) < (ns.length : Int) := by omega
      clear hy hl
      go_wp2_with fail
      go_region
      all_goals go_wp2
      all_goals go_ret
      all_goals exact ⟨(by rw [HD.out] <;> rfl), (by first | exact HK1.out | exact HK1.out.drew)⟩
    · obtain ⟨q, rfl⟩ : ∃ q : Nat, p = (q : Int) := ⟨p.toNat, by omega⟩
      rw [if_pos (by trivial), if_neg hp0, Int.toNat_natCast] at HD
      obtain ⟨k, hk⟩ : ∃ k : Nat, k = q % ns.length := ⟨_, rfl⟩
      have hkl : k < ns.length := by rw [hk]; exact Nat.mod_lt _ (by omega)
      have hmod : (q : Int) % (ns.length : Int) = (k : Int) := by rw [hk]; omega
      have hmod2 : Int.tmod (q : Int) (ns.length : Int) = (k : Int) := by
        rw [Int.tmod_eq_emod_of_nonneg (by omega)]; exact hmod
      rw [← hk] at HD
      obtain ⟨b, o, rfl, _, _, hc⟩ := (HN.out _ HK1.out).at_ (j := k) hkl
      obtain ⟨y, hy⟩ : ∃ y, y = ns.getD k 0 := ⟨_, rfl⟩
      rw [← hy] at hc HD
      have hki : (k : Int) < (ns.length : Int) := by omega
      have hk0 : (0 : Int) ≤ (k : Int) := by omega
      have hq0 : (0 : Int) ≤ (q : Int) := by omega
      clear hk hy hl hkl hp0
      go_wp2_with fail
      go_region
      all_goals go_wp2
      all_goals go_ret
      all_goals exact ⟨(by rw [HD.out] <;> rfl), (by first | exact HK1.out | exact HK1.out.drew)⟩
set_option maxRecDepth 100000 in
theorem RReader19 (v : Value) (c : Cf) (p : Int) (hp : p ≤ 9223372036854775807) (F : Nat → Prop) (w : World) (h : CfR w F v c) : Calls Try.prog 14 #[v, .int .i64 p] w (IntE (readN c p) w) := by
  obtain ⟨u, rfl, hn, h0, htop⟩ := id h
  obtain ⟨a, cap, rfl, hn1, hn2, _⟩ := id hn
  unfold maxLen at hn2
  have HR := Lib.hid (fun w' (hk : Kept NoB w w') => RRight19 _ c F w' (h.no hk))
  have HN := Lib.hid (fun w' (hk : Kept NoB w w') => hn.kept hk (fun _ _ _ h => h))
  have HL : Hid (rgtB c = true → 1 ≤ c.ns.length ∧ c.ns.length ≤ 5) := Lib.hid len_pos
  have HD : Hid (readN c p = if rgtB c = true then c.ns.getD ((if p < 0 then 0 else p.toNat) % c.ns.length) 0 else 0) := Lib.hid rfl
  have hb := heap_alloc_new w (.cells #[.int .i64 c.ch, .int .u64 c.ep, .slice a c.ns.length cap, .bool c.fr, .int .i64 c.jn] 25)
  have HK := Lib.hid ((Kept.refl NoB w).alloc (.cells #[.int .i64 c.ch, .int .u64 c.ep, .slice a c.ns.length cap, .bool c.fr, .int .i64 c.jn] 25))
  obtain ⟨r, hr⟩ : ∃ r, r = rgtB c := ⟨_, rfl⟩
  rw [← hr] at HR HL HD
  obtain ⟨d, hd⟩ : ∃ d, d = readN c p := ⟨_, rfl⟩
  rw [← hd] at HD ⊢
  obtain ⟨ch, ep, ns, fr, jn⟩ := c
  simp only at HR HN HL HD hb HK hn1 h0 htop ⊢
  have HB := Lib.hid hb
  clear h hn hr hd hb
  go_enter Try.func14, Try.ntmps14
  go_wp2_with fail
  refine (HR.out _ HK.out).mono ?_
  rintro e w1 ⟨rfl, hk⟩
  have HK1 := Lib.hid (HK.out.trans hk (fun _ _ h => h))
  obtain ⟨c0, c1, c2, c3, c4⟩ := cells5 (hk.heap (fun h => h) HB.out)
  clear hk
  cases r with
  | false =>
    go_wp2
    go_ret
    exact ⟨(by rw [HD.out] <;> rfl), HK1.out⟩
  | true =>
    have hl := HL.out (by trivial)
    have hl1 : (1 : Int) ≤ (ns.length : Int) := by omega
    have hz : ¬ (ns.length : Int) = 0 := by omega
    have hzb : ((ns.length : Int) == 0) = false := beq_eq_false_iff_ne.2 hz
    have hnil : ¬ ns = [] := fun h => by rw [h] at hl; exact absurd hl.1 (by decide)
    by_cases hp0 : p < 0
    · obtain ⟨b, o, rfl, _, _, hc⟩ := (HN.out _ HK1.out).at_ (j := 0) (by omega)
      rw [Nat.add_zero] at hc
      rw [if_pos (by trivial), if_pos hp0, Nat.zero_mod] at HD
      obtain ⟨y, hy⟩ : ∃ y, y = ns.getD 0 0 := ⟨_, rfl⟩
      rw [← hy] at hc HD
      have hki : (0 : Int) < (ns.length : Int) := by omega
      clear hy hl
      go_wp2
      all_goals go_ret
      all_goals exact ⟨(by rw [HD.out] <;> rfl), (by first | exact HK1.out | exact HK1.out.drew)⟩
    · obtain ⟨q, rfl⟩ : ∃ q : Nat, p = (q : Int) := ⟨p.toNat, by omega⟩
      rw [if_pos (by trivial), if_neg hp0, Int.toNat_natCast] at HD
      obtain ⟨k, hk⟩ : ∃ k : Nat, k = q % ns.length := ⟨_, rfl⟩
      have hkl : k < ns.length := by rw [hk]; exact Nat.mod_lt _ (by omega)
      have hmod : (q : Int) % (ns.length : Int) = (k : Int) := by rw [hk]; omega
      have hmod2 : Int.tmod (q : Int) (ns.length : Int) = (k : Int) := by
        rw [Int.tmod_eq_emod_of_nonneg (by omega)]; exact hmod
      rw [← hk] at HD
      obtain ⟨b, o, rfl, _, _, hc⟩ := (HN.out _ HK1.out).at_ (j := k) hkl
      obtain ⟨y, hy⟩ : ∃ y, y = ns.getD k 0 := ⟨_, rfl⟩
      rw [← hy] at hc HD
      have hki : (k : Int) < (ns.length : Int) := by omega
      have hk0 : (0 : Int) ≤ (k : Int) := by omega
      have hq0 : (0 : Int) ≤ (q : Int) := by omega
      clear hk hy hl hkl hp0
      go_wp2_with fail
      go_region
      all_goals go_wp2
      all_goals go_ret
      all_goals exact ⟨(by rw [HD.out] <;> rfl), (by first | exact HK1.out | exact HK1.out.drew)⟩
end Go.Proofs.Ytajneoaljpljpaa
