/-
  once and same of layer 22.
-/
import Derived.Test.YtnnmkmipeoajjaaGreatDoorCrqA
import Derived.Deep.CutRange
import Derived.LoopTactic
namespace Go.Proofs.YtnnmkmipeoajjaaGreatDoor
open Go.RowKit
set_option linter.unusedVariables false
set_option linter.unusedSimpArgs false

/-- Each client once, under rising tokens. -/
def Dis (L : List Rq) : Prop := L.Pairwise (fun x y => x.c ≠ y.c ∧ x.t < y.t)
theorem Dis.at_ {L : List Rq} (h : Dis L) {i j : Nat} (hij : i < j) (hj : j < L.length) : L[i].c ≠ L[j].c ∧ L[i].t < L[j].t := List.pairwise_iff_getElem.1 h i j (by omega) hj hij

set_option maxRecDepth 100000 in
theorem once_any (v : Value) (L : List Rq) (B : Nat) (w : World) (h : RqOw 33 B w v L) (hd : Dis L) (hl : L.length ≤ 1000) :
    Calls Tryz.prog 23 #[v] w fun e w' => e = .returned (.bool true) ∧ Kept NoB w w' := by
  obtain ⟨a, c, rfl⟩ := h.form
  have H := Lib.hid h
  have HD := Lib.hid hd
  clear h hd
  go_enter Tryz.func23, Tryz.ntmps23
  go_wp2
  go_loopw [3] (fun iv wr => ∃ i : Nat, iv = .int .i64 i ∧ i ≤ L.length ∧ Kept NoB w wr) (fun iv _ => L.length - (intOf iv).toNat)
  case atStart => exact ⟨0, rfl, Nat.zero_le _, Kept.refl _ _⟩
  case round =>
    obtain ⟨i, rfl, hi, hk⟩ := hrel
    have HK := Lib.hid hk
    clear hk
    by_cases hlt : i < L.length
    · have hi1 : (i : Int) < (L.length : Int) := by omega
      go_wp2
      go_loopw [4] (fun kv wq => ∃ k : Nat, kv = .int .i64 k ∧ k ≤ i ∧ Kept NoB w wq) (fun kv _ => i - (intOf kv).toNat)
      case atStart => exact ⟨0, rfl, Nat.zero_le _, HK.out⟩
      case round =>
        obtain ⟨k, rfl, hki, hk2⟩ := hrel
        have HK2 := Lib.hid hk2
        clear hk2
        by_cases hlk : k < i
        · have hk1 : (k : Int) < (i : Int) := by omega
          have hk3 : (k : Int) < (L.length : Int) := by omega
          obtain ⟨r, c', he, hc', hr, e0, e1, e2, e3⟩ := (H.out.no HK2.out).cells i hlt
          obtain ⟨r', c'', he', _, _, g0, g1, g2, g3⟩ := (H.out.no HK2.out).cells k (by omega)
          injection he with he1 _ he3
          subst he1 he3
          injection he' with he1 _ he3
          injection he1 with he1
          injection he1 with he1 _ _
          subst he1 he3
          obtain ⟨n1, n2⟩ := HD.out.at_ hlk hlt
          obtain ⟨xt, hxt⟩ : ∃ x, x = L[i].t := ⟨_, rfl⟩
          obtain ⟨xc, hxc⟩ : ∃ x, x = L[i].c := ⟨_, rfl⟩
          obtain ⟨yt, hyt⟩ : ∃ x, x = L[k].t := ⟨_, rfl⟩
          obtain ⟨yc, hyc⟩ : ∃ x, x = L[k].c := ⟨_, rfl⟩
          rw [← hxt] at e0 n2
          rw [← hxc] at e1 n1
          rw [← hyt] at g0 n2
          rw [← hyc] at g1 n1
          have d1 : (yc == xc) = false := by simpa using n1
          have d2 : decide (xt ≤ yt) = false := decide_eq_false (by omega)
          clear e2 e3 g2 g3 hxt hxc hyt hyc n1 n2
          go_wp2
          go_quiet (fail)
          go_wp2
          go_roundw
          case rel => exact ⟨k + 1, by go_num, by omega, HK2.out.drewN _⟩
          case measure => simp [intOf]; omega
        · obtain rfl : k = i := by omega
          go_wp2
          exact ⟨⟨k + 1, by go_num, by omega, HK2.out⟩, by simp [intOf]; omega⟩
    · obtain rfl : i = L.length := by omega
      go_wp2
      go_ret
      exact ⟨rfl, HK.out⟩
set_option maxRecDepth 100000 in
theorem same22_any (v u : Value) (L : List Rq) (B C : Nat) (w : World) (h : RqOw 33 B w v L) (k : RqOw 37 C w u L) (hl : L.length ≤ 1000) :
    Calls Tryz.prog 21 #[v, u] w fun e w' => e = .returned (.bool true) ∧ Kept NoB w w' := by
  obtain ⟨a, c, rfl⟩ := h.form
  obtain ⟨a', c', rfl⟩ := k.form
  have H := Lib.hid h
  have K2 := Lib.hid k
  clear h k
  go_enter Tryz.func21, Tryz.ntmps21
  go_wp2
  go_loopw [5] (fun iv wr => ∃ i : Nat, iv = .int .i64 i ∧ i ≤ L.length ∧ Kept NoB w wr) (fun iv _ => L.length - (intOf iv).toNat)
  case atStart => exact ⟨0, rfl, Nat.zero_le _, Kept.refl _ _⟩
  case round =>
    obtain ⟨i, rfl, hi, hk⟩ := hrel
    have HK := Lib.hid hk
    clear hk
    by_cases hlt : i < L.length
    · have hi1 : (i : Int) < (L.length : Int) := by omega
      obtain ⟨r, d, he, hd, hr, e0, e1, e2, e3⟩ := (H.out.no HK.out).cells i hlt
      obtain ⟨r', d', he', _, _, g0, g1, g2, g3⟩ := (K2.out.no HK.out).cells i hlt
      injection he with he1 _ he3
      subst he1 he3
      injection he' with he1 _ he3
      subst he1 he3
      obtain ⟨xt, hxt⟩ : ∃ x, x = L[i].t := ⟨_, rfl⟩
      obtain ⟨xc, hxc⟩ : ∃ x, x = L[i].c := ⟨_, rfl⟩
      obtain ⟨xn, hxn⟩ : ∃ x, x = L[i].n := ⟨_, rfl⟩
      obtain ⟨xk, hxk⟩ : ∃ x, x = L[i].k := ⟨_, rfl⟩
      rw [← hxt] at e0 g0
      rw [← hxc] at e1 g1
      rw [← hxn] at e2 g2
      rw [← hxk] at e3 g3
      clear hxt hxc hxn hxk
      go_wp2
      go_quiet (fail)
      go_wp2
      go_roundw
      case rel => exact ⟨i + 1, by go_num, by omega, HK.out.drewN _⟩
      case measure => simp [intOf]; omega
    · obtain rfl : i = L.length := by omega
      go_wp2
      go_ret
      exact ⟨rfl, HK.out⟩
end Go.Proofs.YtnnmkmipeoajjaaGreatDoor
