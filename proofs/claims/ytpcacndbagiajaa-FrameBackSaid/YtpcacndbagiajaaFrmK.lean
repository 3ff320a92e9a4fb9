/-
  The walk of FrameBack.
-/
import Derived.Test.YtpcacndbagiajaaFrmJ
namespace Go.Proofs.Ytpcacndbagiajaa
open Go.RowKit

set_option maxHeartbeats 2000000 in
set_option maxRecDepth 100000 in
theorem FrameBack_any (k : Nat) (b : Value) (l : List Int) (bit p : Nat) (w : World) (hk : k < 256) (hb : BSl w (fun k => k < w.heap.size) b l) (hbit : bit < 65536) (hp : p < 4294967296) :
    Calls Try.prog 9 #[.agg #[.int .u8 k, b], .int .u16 bit, .int .u32 p] w fun e w' => e = .returned (.bool true) ∧ Kept NoB w w' := by
  have HB := Lib.hid hb
  obtain ⟨ba, bc, rfl, hb1, hb2, _⟩ := hb
  have hlb : (l.length : Int) ≤ 9223372036854775807 := by unfold maxLen at hb2; omega
  clear hb2
  have hka : ∀ o : Obj, Kept NoB w (w.alloc o) := fun o => (Kept.refl _ _).alloc o
  have HKA := Lib.hid hka
  clear hka
  by_cases hk0 : k = 0
  · subst hk0
    go_enter Try.func9, Try.ntmps9
    go_wp2_with fail
    refine (awake3_any _).mono ?_
    rintro e w1 ⟨rfl, hk1⟩
    go_wp2
    go_ret
    exact ⟨rfl, (HKA.out _).trans hk1 (fun _ _ h => h)⟩
  have hkb : ((k : Int) == 0) = false := by rw [beq_eq_false_iff_ne]; omega
  by_cases hl : 200 < l.length
  · have hl2 : (200 : Int) < (l.length : Int) := by omega
    go_enter Try.func9, Try.ntmps9
    go_wp2_with fail
    refine (awake3_any _).mono ?_
    rintro e w1 ⟨rfl, hk1⟩
    go_wp2
    go_ret
    exact ⟨rfl, (HKA.out _).trans hk1 (fun _ _ h => h)⟩
  have hl2 : (l.length : Int) ≤ 200 := by omega
  have HPUT := Lib.hid (putF_seal (l := l) hk0 (by omega))
  have HGET := Lib.hid (get_seal (l := l) hk0 (by omega))
  have HSH := Lib.hid (fun (i : Nat) (hi : i < (sealF k l).length) => cut_short (l := l) hk0 (by omega) hi)
  have HTURN := Lib.hid (fun q => get_turn (l := l) hk0 hk (by omega) HB.out.isB q p)
  have hsl := sealF_len k l
  have hsb := sealF_isB hk HB.out.isB
  obtain ⟨s, hs⟩ : ∃ s, s = sealF k l := ⟨_, rfl⟩
  rw [← hs] at HPUT HGET HSH HTURN hsl hsb
  have HSB := Lib.hid hsb
  have hs1 : (s.length : Int) ≤ (l.length : Int) + 7 := by omega
  have hs2 : (l.length : Int) + 7 ≤ (s.length : Int) := by omega
  have hsn : ((s.length : Int) != (l.length : Int) + 7) = false := by rw [bne_eq_false_iff_eq]; omega
  have hw7 : IntKind.i64.wrap ((l.length : Int) + 7) = (l.length : Int) + 7 := IntWalk.i64_in _ (by omega)
  have HSL := Lib.hid hsl
  clear hs hsl hsb hl
  go_enter Try.func9, Try.ntmps9
  go_wp2_with fail
  refine (FNew_nil _).mono ?_
  rintro e w1 ⟨g, rfl, hg, ht1, hc1, hk1⟩
  simp only [World.size_alloc] at hg ht1 hc1
  have BF1 := Lib.hid (hk1.heap (fun h => h) (heap_alloc_new w _))
  have HT1 := Lib.hid ht1
  have HC1 := Lib.hid hc1
  have HK1 := Lib.hid ((HKA.out _).trans hk1 (fun _ _ h => h))
  have hgl := hc1.lt
  have htl := ht1.lt
  have f0 : w1.cell? ⟨w.heap.size, 0, none⟩ = some (.int .u8 (k : Int)) := cell_of_row w1 _ 0 _ _ _ BF1.out
  have f1 : w1.cell? ⟨w.heap.size, 1, none⟩ = some (.slice ba l.length bc) := cell_of_row w1 _ 1 _ _ _ BF1.out
  clear ht1 hc1 hk1
  go_wp2_with fail
  refine (ours_any _ _ _ _ _).mono ?_
  rintro e w2 ⟨rfl, hk2⟩
  have hC2 := HC1.out.kept hk2 (fun h => h)
  have hT2 := HT1.out.kept hk2 (fun h => h)
  have hB2 := (HB.out.kept HK1.out (fun _ _ h => h)).kept hk2 (fun _ _ h => h)
  go_wp2_with fail
  refine (FPut_any g (w.heap.size + 1) false 0 0 k _ l _ _ hC2 hT2 hk hB2 (by omega)).mono ?_
  rintro e w3 ⟨v3, rfl, hv3, ht3, hk3⟩
  rw [HPUT.out] at hv3 ⊢
  obtain ⟨va, vc, rfl⟩ := own_form hv3.2.1
  have HV3 := Lib.hid hv3
  have hk13 : Kept (One (w.heap.size + 1)) w1 w3 := (hk2.mono (fun _ _ h => h.elim)).trans hk3 (fun _ _ h => h)
  have HC3 := Lib.hid (HC1.out.kept hk13 (fun h => by have e : g = w.heap.size + 1 := h; omega))
  have HT3 := Lib.hid ht3
  have BF3 := Lib.hid (hk13.heap (fun h => by have e : w.heap.size = w.heap.size + 1 := h; omega) BF1.out)
  have HK3 := Lib.hid (HK1.out.one_new hk13 (by omega))
  have hz12 := hk2.size
  have hz23 := hk3.size
  clear hC2 hT2 hB2 hv3 ht3 hk2 hk3 hk13 f0 f1
  go_wp2_with fail
  obtain ⟨m3, ht3⟩ := HT3.out
  refine (Get3_any g (w.heap.size + 1) m3 0 0 _ s _ _ HC3.out ht3 HV3.out.bsl (by omega) (by omega) (by omega) (by omega) (by omega) (by omega)).mono ?_
  rintro e w4 ⟨v4, rfl, hv4, ht4, hc4, hk4⟩
  rw [HGET.out] at hv4 hc4 ⊢
  obtain ⟨ua, uc, rfl⟩ := own_form hv4.2.1
  have HV4 := Lib.hid hv4
  have HC4 := Lib.hid (show CodecAt w4 g (w.heap.size + 1) 1 0 from hc4)
  have HT4 := Lib.hid ht4
  have hB3 : ∀ k, w2.heap.size ≤ k → ¬ Two g (w.heap.size + 1) k := fun k h1 h2 => by rcases h2 with h2 | h2 <;> omega
  have HH3 := Lib.hid hB3
  have HS4 := Lib.hid (HV3.out.kept hk4 hB3)
  have BF4 := Lib.hid (hk4.heap (fun h => by rcases h with h | h <;> omega) BF3.out)
  have HK4 := Lib.hid (HK3.out.trans hk4 (fun i hi h => by rcases h with h | h <;> omega))
  have hz34 := hk4.size
  have f0 : (w4.alloc (.cells #[.int .u8 (k : Int), .slice ua l.length uc] 81)).cell? ⟨w.heap.size, 0, none⟩ = some (.int .u8 (k : Int)) := cell_alloc (cell_of_row w4 _ 0 _ _ _ BF4.out) _
  have f1 : (w4.alloc (.cells #[.int .u8 (k : Int), .slice ua l.length uc] 81)).cell? ⟨w.heap.size, 1, none⟩ = some (.slice ba l.length bc) := cell_alloc (cell_of_row w4 _ 1 _ _ _ BF4.out) _
  clear ht3 hv4 hc4 ht4 hk4 hB3
  go_wp2_with fail
  have hka4 : Kept NoB w4 (w4.alloc (.cells #[.int .u8 (k : Int), .slice ua l.length uc] 81)) := (Kept.refl _ _).alloc _
  refine (like_any k k _ _ l l _ _ _ (HV4.out.bsl.kept hka4 (fun _ _ h => h)) ((HB.out.kept HK4.out (fun _ _ h => h)).kept hka4 (fun _ _ h => h))).mono ?_
  rintro e w5 ⟨rfl, hk5⟩
  rw [decide_eq_true (rfl : (k : Int) = k), decide_eq_true (rfl : l = l)]
  have hk45 : Kept NoB w4 w5 := hka4.trans hk5 (fun _ _ h => h)
  have HS5 := Lib.hid (HS4.out.kept hk45 (fun _ _ h => h))
  have HC5 := Lib.hid (HC4.out.kept hk45 (fun h => h))
  have HT5 := Lib.hid (HT4.out.kept hk45 (fun h => h))
  have HK5 := Lib.hid (HK4.out.trans hk45 (fun _ _ h => h))
  have bf5 := hk45.heap (fun h => h) BF4.out
  have f1 : w5.cell? ⟨w.heap.size, 1, none⟩ = some (.slice ba l.length bc) := cell_of_row w5 _ 1 _ _ _ bf5
  clear hka4 hk5 hk45 bf5 f0
  go_wp2_with fail
  go_loopw [12] (fun i wr => ∃ (j : Nat) (y : Int), j ≤ s.length ∧ i = .int .i64 j ∧ 0 ≤ y ∧ y ≤ j ∧ CodecAt wr g (w.heap.size + 1) 1 y ∧ TabSome wr (w.heap.size + 1) ∧ Own wr (fun k => w2.heap.size ≤ k) (.slice va s.length vc) s ∧ Kept NoB w wr) (fun i _ => s.length - (intOf i).toNat)
  case atStart => exact ⟨0, 0, Nat.zero_le _, rfl, Int.le_refl _, Int.le_refl _, HC5.out, HT5.out, HS5.out, HK5.out⟩
  case round =>
    obtain ⟨j, y, hj, rfl, hy0, hyj, hC, hT, hS, hK⟩ := hrel
    have HC := Lib.hid hC
    have HT := Lib.hid hT
    have HS := Lib.hid hS
    have HK := Lib.hid hK
    obtain ⟨a', cap', e1, hcp, hm', hn', hr'⟩ := hS.bsl
    simp only [Value.slice.injEq, true_and] at e1
    obtain ⟨rfl, rfl⟩ := e1
    have HN' := Lib.hid hn'
    have HR' := Lib.hid hr'
    have HM' := Lib.hid hm'
    clear hC hT hS hK hn' hr' hm'
    by_cases hlt : j < s.length
    · have HBT := Lib.hid (bsl_take hcp HM'.out HN'.out HR'.out (n := j) (by omega))
      have hj0 : (0 : Int) ≤ (j : Int) := by omega
      have hj1 : (j : Int) < (s.length : Int) := by omega
      have hjc : j ≤ vc := by omega
      have HCU := Lib.hid (HSH.out j hlt)
      obtain ⟨m6, ht6⟩ := HT.out
      have HT6 := Lib.hid ht6
      clear ht6
      go_wp2_with fail
      refine (Cut3_any g (w.heap.size + 1) m6 1 y _ (s.take j) _ _ HC.out HT6.out HBT.out (by omega) (by omega) (by omega) (by omega) hy0 (by omega)).mono ?_
      rintro e w7 ⟨v7, rfl, hv7, ht7, hc7, hk7⟩
      rw [HCU.out] at hv7 hc7 ⊢
      have HC7 := Lib.hid (show CodecAt w7 g (w.heap.size + 1) 1 (y + 1) from hc7)
      have HT7 := Lib.hid ht7
      have HS7 := Lib.hid (HS.out.kept hk7 HH3.out)
      have HK7 := Lib.hid (HK.out.trans hk7 (fun i hi h => by rcases h with h | h <;> omega))
      obtain ⟨ya, yc, rfl⟩ := own_form hv7.2.1
      clear hv7 ht7 hc7 hk7
      go_wp2
      exact ⟨⟨j + 1, y + 1, by omega, by go_num, by omega, by omega, HC7.out.kept (S := NoB) ((Kept.refl _ _).alloc _) (fun h => h), HT7.out.kept (S := NoB) ((Kept.refl _ _).alloc _) (fun h => h), HS7.out.kept (S := NoB) ((Kept.refl _ _).alloc _) (fun _ _ h => h), HK7.out.alloc _⟩, by simp [intOf]; omega⟩
    · obtain rfl : j = s.length := by omega
      have hmod : ((bit : Int) % (8 * (s.length : Int))) = ((bit % (8 * s.length) : Nat) : Int) := by rw [Int.natCast_emod, Int.natCast_mul]; rfl
      obtain ⟨q, hq⟩ : ∃ q, q = bit % (8 * s.length) := ⟨_, rfl⟩
      rw [← hq] at hmod
      have hsl7 := HSL.out
      have hqlt : q < 8 * s.length := by rw [hq]; exact Nat.mod_lt _ (by omega)
      clear hq hsl7 f1
      go_wp2_with fail
      refine (RTurn_any _ s q p _ _ HS.out.bsl (by omega) (by omega) hp).mono ?_
      rintro e w7 ⟨v7, rfl, hv7, hk7⟩
      have HTU := Lib.hid (HTURN.out q)
      obtain ⟨x, hx⟩ : ∃ x, x = turn s q p 32 := ⟨_, rfl⟩
      have hxl : x.length ≤ s.length := by rw [hx, turn_len]; exact Nat.le_refl _
      rw [← hx] at hv7 HTU
      have HV7 := Lib.hid hv7
      obtain ⟨xa, xc, rfl⟩ := own_form hv7.2.1
      have HC7 := Lib.hid (HC.out.kept hk7 (fun h => h))
      have HT7 := Lib.hid (HT.out.kept hk7 (fun h => h))
      have HS7 := Lib.hid (HS.out.kept hk7 (fun _ _ h => h))
      have HK7 := Lib.hid (HK.out.trans hk7 (fun _ _ h => h))
      have hzr := HC.out.lt
      have hzt := HT.out.lt
      clear hv7 hk7 hx
      go_wp2_with fail
      obtain ⟨m7, ht7⟩ := HT7.out
      refine (Get3_any g (w.heap.size + 1) m7 1 y _ x _ _ HC7.out ht7 HV7.out.bsl (by omega) (by omega) (by omega) (by omega) hy0 (by omega)).mono ?_
      rintro e w8 ⟨v8, rfl, hv8, _, _, hk8⟩
      obtain ⟨xe, hxe⟩ : ∃ xe, xe = (getF x).err := ⟨_, rfl⟩
      rw [← hxe] at HTU ⊢
      obtain ⟨ya, yc, rfl⟩ := own_form hv8.2.1
      have HK8 := Lib.hid (HK7.out.trans hk8 (fun i hi h => by rcases h with h | h <;> omega))
      have HX8 := Lib.hid (HV7.out.bsl.kept hk8 (fun k h1 h2 => by rcases h2 with h2 | h2 <;> omega))
      have HS8 := Lib.hid (HS7.out.bsl.kept hk8 HH3.out)
      obtain ⟨z, hz⟩ : ∃ z, z = decide (x = s) := ⟨_, rfl⟩
      rw [← hz] at HTU
      have HZ := Lib.hid hz
      have htu : (xe == 0) = z := HTU.out
      clear ht7 hv8 hk8 hxe hz
      go_wp2_with fail
      refine (Same_any _ _ x s _ _ _ (HX8.out.kept (S := NoB) ((Kept.refl _ _).alloc _) (fun _ _ h => h)) (HS8.out.kept (S := NoB) ((Kept.refl _ _).alloc _) (fun _ _ h => h))).mono ?_
      rintro e w9 ⟨rfl, hk9⟩
      rw [← HZ.out]
      go_wp2_with fail
      refine (awake3_any _).mono ?_
      rintro e w10 ⟨rfl, hk10⟩
      go_wp2
      go_ret
      exact ⟨rfl, ((HK8.out.alloc _).trans hk9 (fun _ _ h => h)).trans hk10 (fun _ _ h => h)⟩
theorem FrameBack_u (k : Nat) (b : Value) (l : List Int) (bit p : Int) (w : World) (hk : k < 256) (hb : BSl w (fun k => k < w.heap.size) b l) (hbit : (Lit.int .u16 bit).wf = true) (hp : (Lit.int .u32 p).wf = true) :
    Calls Try.prog 9 #[.agg #[.int .u8 k, b], .int .u16 bit, .int .u32 p] w fun e w' => e = .returned (.bool true) ∧ Kept NoB w w' := by
  obtain ⟨a, rfl⟩ := Int.eq_ofNat_of_zero_le (show 0 ≤ bit from (bounds_u16 hbit).1)
  obtain ⟨c, rfl⟩ := Int.eq_ofNat_of_zero_le (show 0 ≤ p from (bounds_u32 hp).1)
  exact FrameBack_any k b l a c w hk hb (by have := (bounds_u16 hbit).2; omega) (by have := (bounds_u32 hp).2; omega)
end Go.Proofs.Ytpcacndbagiajaa
