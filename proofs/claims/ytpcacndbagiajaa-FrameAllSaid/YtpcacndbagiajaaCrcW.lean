/-
  What the calls of package crc, and the plain functions of catenaryref02, do: contracts.
-/
import Derived.Test.YtpcacndbagiajaaCrcL
import Derived.Test.YtpcacndbagiajaaReady
import Derived.Test.YtpcacndbagiajaaRef
namespace Go.Proofs.Ytpcacndbagiajaa
open Go.RowKit

theorem TabAt.kept {S : Nat → Prop} {w w' : World} {g : Nat} {m : Bool} (h : TabAt w g m) (hk : Kept S w w') (hg : ¬ S g) : TabAt w' g m := by
  obtain ⟨cs, hh, rest⟩ := h
  exact ⟨cs, hk.heap hg hh, rest⟩
theorem TabAt.num {w : World} {g : Nat} (h : TabAt w g true) {i : Nat} (hi : i < 256) : w.cell? ⟨g, 4 + i, none⟩ = some (.int .u32 (tab i)) := by
  obtain ⟨cs, hh, _, _, _, _, _, ht⟩ := h
  exact (cell_of_row w g (4 + i) _ _ _ hh).trans (ht i hi)
theorem TabAt.lt {w : World} {g : Nat} {m : Bool} (h : TabAt w g m) : g < w.heap.size := by
  obtain ⟨cs, hh, _⟩ := h
  exact heap_lt hh

theorem xor32 (a b : Nat) (ha : a < 4294967296) (hb : b < 4294967296) : bits BinOp.xor IntKind.u32 (a : Int) (b : Int) = ((a ^^^ b : Nat) : Int) := u32_xor_nat a b ha hb
theorem oth_bits (a : Nat) (ha : a < 4294967296) : bits BinOp.xor IntKind.u32 (a : Int) 4294967295 = (oth a : Int) := by
  have := u32_xor_nat a 4294967295 ha (by decide)
  rw [show ((4294967295 : Nat) : Int) = 4294967295 from rfl] at this
  exact this

/-- Half. -/
theorem Half_any (s : Nat) (w : World) (hs : s < 4294967296) : Calls Try.prog 88 #[.int .u32 s] w fun e w' => e = .returned (.int .u32 (half s)) ∧ w = w' := by
  have hx := xor_poly s hs
  have hdiv : ((s / 2 : Nat) : Int) = (s : Int) / 2 := by omega
  rw [hdiv] at hx
  have h0 : (0 : Int) ≤ (s : Int) := by omega
  by_cases hodd : s % 2 = 1
  · have HH := Lib.hid (show half s = s / 2 ^^^ 3988292384 from if_pos hodd)
    have ho : ((s : Int) % 2 == 1) = true := by rw [beq_iff_eq]; omega
    have HX := Lib.hid hx
    have hw : IntKind.u32.wrap ((s : Int) / 2) = (s : Int) / 2 := IntWalk.u32_in _ (by omega)
    clear hodd hdiv hx
    go_enter Try.func88, Try.ntmps88
    go_wp2
    go_ret
    rw [HX.out, HH.out]
    exact ⟨rfl, rfl⟩
  · have HH := Lib.hid (show half s = s / 2 from if_neg hodd)
    have ho : ((s : Int) % 2 == 1) = false := by rw [beq_eq_false_iff_ne]; omega
    have HD := Lib.hid hdiv
    have hw : IntKind.u32.wrap ((s : Int) / 2) = (s : Int) / 2 := IntWalk.u32_in _ (by omega)
    clear hodd hdiv hx
    go_enter Try.func88, Try.ntmps88
    go_wp2
    go_ret
    rw [HH.out, HD.out]
    exact ⟨rfl, rfl⟩

/-- Other. -/
theorem Other_any (s : Nat) (w : World) (hs : s < 4294967296) : Calls Try.prog 79 #[.int .u32 s] w fun e w' => e = .returned (.int .u32 (oth s)) ∧ w = w' := by
  have hx := Lib.hid (oth_bits s hs)
  go_enter Try.func79, Try.ntmps79
  go_wp2
  go_ret
  rw [hx.out]
  exact ⟨rfl, rfl⟩

set_option maxRecDepth 100000 in
/-- On. -/
theorem On_any (s : Nat) (v : Value) (l : List Int) (F : Nat → Prop) (w : World) (hs : s < 4294967296) (h : BSl w F v l) :
    Calls Try.prog 80 #[.int .u32 s, v] w fun e w' => e = .returned (.int .u32 (on s l)) ∧ w = w' := by
  obtain ⟨a, cap, rfl, hc, hm, _, hr⟩ := h
  have HB := Lib.hid hr.1
  unfold maxLen at hm
  have HS := Lib.hid hs
  clear hs
  go_enter Try.func80, Try.ntmps80
  go_wp2
  go_loop [0, 5] (fun x i => ∃ j : Nat, j ≤ l.length ∧ i = .int .i64 j ∧ x = .int .u32 (on s (l.take j))) (fun _ i => l.length - (intOf i).toNat)
  case atStart => exact ⟨0, Nat.zero_le _, rfl, rfl⟩
  case round =>
    obtain ⟨j, hj, rfl, rfl⟩ := hrel
    have hlt := on_lt s (l.take j) HS.out (HB.out.take j)
    obtain ⟨t, ht⟩ : ∃ t, t = on s (l.take j) := ⟨_, rfl⟩
    rw [← ht] at hlt ⊢
    have HT := Lib.hid ht
    clear ht
    by_cases hjl : j < l.length
    · obtain ⟨b, o, rfl, _, _, hcell⟩ := hr.at_ hjl
      have hxb := HB.out.getD j
      obtain ⟨x, hx⟩ : ∃ x : Nat, (x : Int) = l.getD j 0 := ⟨(l.getD j 0).toNat, by omega⟩
      rw [← hx] at hcell hxb
      have HX := Lib.hid hx
      have hx256 : x < 256 := by omega
      have hw : IntKind.u32.wrap (x : Int) = (x : Int) := IntWalk.u32_in _ (by omega)
      have hxor := xor32 t x hlt (by omega)
      have hh0 := Nat.xor_lt_two_pow (n := 32) hlt (by show x < 2 ^ 32; omega)
      obtain ⟨u, hu⟩ : ∃ u, u = t ^^^ x := ⟨_, rfl⟩
      rw [← hu] at hxor hh0
      have HU := Lib.hid hu
      clear hx hu hxb
      go_wp2_with fail
      go_loop [0, 6] (fun y i => ∃ k : Nat, k ≤ 8 ∧ i = .int .i64 k ∧ y = .int .u32 (halves k u)) (fun _ i => 8 - (intOf i).toNat)
      case atStart => exact ⟨0, by omega, rfl, rfl⟩
      case round =>
        obtain ⟨k, hk, rfl, rfl⟩ := hrel
        have hlk := halves_lt k u hh0
        obtain ⟨y, hy⟩ : ∃ y, y = halves k u := ⟨_, rfl⟩
        rw [← hy] at hlk ⊢
        have HY := Lib.hid hy
        clear hy
        by_cases hk8 : k < 8
        · go_wp2_with fail
          refine (Half_any y _ hlk).mono ?_
          rintro e w2 ⟨rfl, rfl⟩
          go_wp2
          refine ⟨⟨k + 1, by omega, by go_num, ?_⟩, by simp [intOf]; omega⟩
          rw [halves, ← HY.out]
        · obtain rfl : k = 8 := by omega
          go_wp2
          refine ⟨⟨j + 1, by omega, by go_num, ?_⟩, by simp [intOf]; omega⟩
          rw [take_snoc hjl, on_snoc, ← HT.out, ← HX.out, HY.out, HU.out]
          rfl
    · go_wp2
      go_ret
      have e : l.take j = l := List.take_of_length_le (by omega)
      rw [HT.out, e]
      exact ⟨rfl, rfl⟩

/-- Of and More, by definition. -/
theorem ROf_any (v : Value) (l : List Int) (F : Nat → Prop) (w : World) (h : BSl w F v l) :
    Calls Try.prog 66 #[v] w fun e w' => e = .returned (.int .u32 (more 0 l)) ∧ w = w' := by
  have HB := Lib.hid h
  have hlt := on_lt 4294967295 l (by decide) h.isB
  have HL := Lib.hid hlt
  obtain ⟨a, cap, rfl, _⟩ := h
  clear hlt
  go_enter Try.func66, Try.ntmps66
  go_wp2_with fail
  refine (On_any 4294967295 _ l F _ (by decide) HB.out).mono ?_
  rintro e w1 ⟨rfl, rfl⟩
  go_wp2_with fail
  refine (Other_any _ _ HL.out).mono ?_
  rintro e w1 ⟨rfl, rfl⟩
  go_wp2
  go_ret
  exact ⟨rfl, rfl⟩
end Go.Proofs.Ytpcacndbagiajaa
