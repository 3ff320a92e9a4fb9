/-
  What New, More, Slow, Of and At of package crc do.
-/
import Derived.Test.YtpcacndbagiajaaCrcW
namespace Go.Proofs.Ytpcacndbagiajaa
open Go.RowKit

theorem one_bsl (w : World) (x : Int) (h0 : 0 ≤ x) (h1 : x < 256) (t : TypeId) : BSl (w.alloc (.cells #[.int .u8 x] t)) (fun k => k = w.heap.size) (.slice (some ⟨w.heap.size, 0, none⟩) 1 1) [x] :=
  ⟨_, 1, rfl, Nat.le_refl _, by decide, (fun h => by cases h), (fun y hy => by simp only [List.mem_singleton] at hy; subst hy; exact ⟨h0, h1⟩), fun _ => ⟨w.heap.size, 0, rfl, rfl, by simp, fun j hj => by
    have : j = 0 := by simp at hj; omega
    subst this
    exact cell_of_row _ _ 0 _ _ _ (heap_alloc_new w (.cells #[.int .u8 x] t))⟩⟩
/-- The operator ^ on a uint32. -/
theorem not_bits (s : Nat) (hs : s < 4294967296) : bits BinOp.xor IntKind.u32 IntKind.u32.max (s : Int) = (oth s : Int) := by
  have := u32_xor_nat 4294967295 s (by decide) hs
  rw [show ((4294967295 : Nat) : Int) = IntKind.u32.max from rfl] at this
  rw [this, oth, Nat.xor_comm]
theorem u32_unsigned : IntKind.u32.signed = false := rfl
/-- Where the table is looked at, and what comes of it. -/
theorem look_bits (t x : Nat) (ht : t < 4294967296) (hx : x < 256) :
    bits BinOp.xor IntKind.u8 ((t : Int) % 256) (x : Int) = (((t % 256) ^^^ x : Nat) : Int) ∧ (t % 256) ^^^ x < 256 ∧ bits BinOp.xor IntKind.u32 ((t : Int) / 256) (tab ((t % 256) ^^^ x) : Int) = (step t x : Int) := by
  have h1 : (t % 256) ^^^ x < 256 := Nat.xor_lt_two_pow (n := 8) (Nat.mod_lt _ (by decide)) hx
  have e1 := u8_xor_nat (t % 256) x (Nat.mod_lt _ (by decide)) hx
  have h2 : tab ((t % 256) ^^^ x) < 4294967296 := halves_lt 8 _ (by omega)
  have e2 := u32_xor_nat (t / 256) (tab ((t % 256) ^^^ x)) (by omega) h2
  rw [step_tab]
  rw [show ((t % 256 : Nat) : Int) = (t : Int) % 256 by omega] at e1
  rw [show ((t / 256 : Nat) : Int) = (t : Int) / 256 by omega] at e2
  exact ⟨e1, h1, e2⟩

theorem TabAt.fresh (w : World) (cs : Array Value) (h : cs = #[.int .u32 0, .int .i32 0, .int .u32 0, .int .i64 0] ++ Array.replicate 256 (.int .u32 0)) : TabAt (w.alloc (.cells cs 66)) w.heap.size false := by
  refine ⟨cs, heap_alloc_new w _, by rw [h]; simp, by rw [h, Array.getElem?_append_left (by simp)]; rfl, by rw [h, Array.getElem?_append_left (by simp)]; rfl, ⟨.int .u32 0, by rw [h, Array.getElem?_append_left (by simp)]; rfl⟩, by rw [h, Array.getElem?_append_left (by simp)]; rfl, fun i hi => ?_⟩
  rw [h, Array.getElem?_append_right (by simp)]
  simp [hi]

set_option maxRecDepth 100000 in
/-- New. -/
theorem CNew_any (w : World) : Calls Try.prog 36 #[] w fun e w' => e = .returned (.pointer (some ⟨w.heap.size, 0, none⟩)) ∧ TabAt w' w.heap.size false ∧ Kept NoB w w' := by
  go_enter Try.func36, Try.ntmps36
  go_wp2
  go_ret
  exact ⟨rfl, TabAt.fresh w _ (by kernel_rfl), (Kept.refl _ _).alloc _⟩

set_option maxRecDepth 100000 in
/-- More. -/
theorem CMore_any (g : Nat) (m : Bool) (sum : Nat) (v : Value) (l : List Int) (F : Nat → Prop) (w : World) (h : TabAt w g m) (hs : sum < 4294967296) (hb : BSl w F v l) (hF : ¬ F g) :
    Calls Try.prog 77 #[.pointer (some ⟨g, 0, none⟩), .int .u32 sum, v] w fun e w' => e = .returned (.int .u32 (more sum l)) ∧ TabAt w' g true ∧ Kept (One g) w w' := by
  have HB := Lib.hid hb
  have HIB := Lib.hid hb.isB
  have HT := Lib.hid h
  obtain ⟨a, cap, rfl, hcp, hm, _⟩ := hb
  unfold maxLen at hm
  have HS := Lib.hid hs
  clear h hs
  go_enter Try.func77, Try.ntmps77
  go_wp2_with fail
  refine (ready_any g m _ HT.out).mono ?_
  rintro e w1 ⟨rfl, ht1, hk1⟩
  have HT1 := Lib.hid ht1
  have HB1 := Lib.hid (HB.out.kept hk1 (fun k hk h => by have e : k = g := h; rw [e] at hk; exact hF hk))
  have HK1 := Lib.hid hk1
  clear ht1 hk1
  have hn1 := not_bits sum HS.out
  have hsg := u32_unsigned
  go_wp2_with fail
  go_loop [8, 19] (fun x i => ∃ j : Nat, j ≤ l.length ∧ i = .int .i64 j ∧ x = .int .u32 (on (oth sum) (l.take j))) (fun _ i => l.length - (intOf i).toNat)
  case atStart => exact ⟨0, Nat.zero_le _, rfl, rfl⟩
  case round =>
    obtain ⟨j, hj, rfl, rfl⟩ := hrel
    have hlt := on_lt (oth sum) (l.take j) (oth_lt _ HS.out) (HIB.out.take j)
    obtain ⟨t, ht⟩ : ∃ t, t = on (oth sum) (l.take j) := ⟨_, rfl⟩
    rw [← ht] at hlt ⊢
    have HTT := Lib.hid ht
    clear ht
    by_cases hjl : j < l.length
    · obtain ⟨a', cap', e1, hcp', hm', _, hr⟩ := HB1.out
      simp only [Value.slice.injEq] at e1
      obtain ⟨rfl, _, rfl⟩ := e1
      obtain ⟨b, o, rfl, _, _, hcell⟩ := hr.at_ hjl
      have hxb := HIB.out.getD j
      obtain ⟨x, hx⟩ : ∃ x : Nat, (x : Int) = l.getD j 0 := ⟨(l.getD j 0).toNat, by omega⟩
      rw [← hx] at hcell hxb
      have HX := Lib.hid hx
      have hx256 : x < 256 := by omega
      clear hx hxb hn1
      obtain ⟨hi1, hi2, hi3⟩ := look_bits t x hlt hx256
      have hct := HT1.out.num hi2
      have HST := Lib.hid (show step t x = step t x from rfl)
      generalize (t % 256) ^^^ x = i at *
      generalize htab : tab i = q at *
      clear htab
      go_wp2_with fail
      refine ⟨⟨j + 1, by omega, by go_num, ?_⟩, by simp [intOf]; omega⟩
      rw [take_snoc hjl, on_snoc, ← HTT.out, ← HX.out]
      rfl
    · have hn2 := not_bits t hlt
      clear hn1
      go_wp2
      go_ret
      have e : l.take j = l := List.take_of_length_le (by omega)
      rw [HTT.out, e]
      exact ⟨rfl, HT1.out, HK1.out⟩

set_option maxRecDepth 100000 in
/-- Slow. -/
theorem Slow_any (v : Value) (l : List Int) (F : Nat → Prop) (w : World) (hb : BSl w F v l) :
    Calls Try.prog 70 #[v] w fun e w' => e = .returned (.int .u32 (more 0 l)) ∧ w = w' := by
  have HIB := Lib.hid hb.isB
  obtain ⟨a, cap, rfl, hcp, hm, _, hr⟩ := hb
  unfold maxLen at hm
  have hsg := u32_unsigned
  have hn1 : bits BinOp.xor IntKind.u32 IntKind.u32.max 0 = 4294967295 := not_bits 0 (by decide)
  go_enter Try.func70, Try.ntmps70
  go_wp2
  go_loop [3, 8] (fun x i => ∃ j : Nat, j ≤ l.length ∧ i = .int .i64 j ∧ x = .int .u32 (on 4294967295 (l.take j))) (fun _ i => l.length - (intOf i).toNat)
  case atStart => exact ⟨0, Nat.zero_le _, rfl, rfl⟩
  case round =>
    obtain ⟨j, hj, rfl, rfl⟩ := hrel
    have hlt := on_lt 4294967295 (l.take j) (by decide) (HIB.out.take j)
    obtain ⟨t, ht⟩ : ∃ t, t = on 4294967295 (l.take j) := ⟨_, rfl⟩
    rw [← ht] at hlt ⊢
    have HTT := Lib.hid ht
    clear ht hn1
    by_cases hjl : j < l.length
    · obtain ⟨b, o, rfl, _, _, hcell⟩ := hr.at_ hjl
      have hxb := HIB.out.getD j
      obtain ⟨x, hx⟩ : ∃ x : Nat, (x : Int) = l.getD j 0 := ⟨(l.getD j 0).toNat, by omega⟩
      rw [← hx] at hcell hxb
      have HX := Lib.hid hx
      have hw : IntKind.u32.wrap (x : Int) = (x : Int) := IntWalk.u32_in _ (by omega)
      have hxor := xor32 t x hlt (by omega)
      have hh0 := Nat.xor_lt_two_pow (n := 32) hlt (by show x < 2 ^ 32; omega)
      obtain ⟨u, hu⟩ : ∃ u, u = t ^^^ x := ⟨_, rfl⟩
      rw [← hu] at hxor hh0
      have HU := Lib.hid hu
      clear hx hu hxb
      go_wp2_with fail
      refine (shifted_any u _ hh0).mono ?_
      rintro e w2 ⟨rfl, rfl⟩
      go_wp2
      refine ⟨⟨j + 1, by omega, by go_num, ?_⟩, by simp [intOf]; omega⟩
      rw [take_snoc hjl, on_snoc, ← HTT.out, ← HX.out, HU.out]
      rfl
    · have hn2 := not_bits t hlt
      go_wp2
      go_ret
      have e : l.take j = l := List.take_of_length_le (by omega)
      rw [HTT.out, e]
      exact ⟨rfl, rfl⟩

theorem tab_on (i : Nat) : on 0 [(i : Int)] = tab i := by simp [on, step, tab]
end Go.Proofs.Ytpcacndbagiajaa
