/-
  The walk of FramePuts.
-/
import Derived.Test.YtpcacndbagiajaaFrmG
namespace Go.Proofs.Ytpcacndbagiajaa
open Go.RowKit

set_option maxHeartbeats 1000000 in
set_option maxRecDepth 100000 in
theorem FramePuts_any (k j : Nat) (b c : Value) (l m : List Int) (w : World) (hk : k < 256) (hb : BSl w (fun k => k < w.heap.size) b l) (hc : BSl w (fun k => k < w.heap.size) c m) :
    Calls Try.prog 6 #[.agg #[.int .u8 k, b], .agg #[.int .u8 j, c]] w fun e w' => e = .returned (.bool true) ∧ Kept NoB w w' := by
  have HB := Lib.hid hb
  have HC := Lib.hid hc
  obtain ⟨ba, bc, rfl, hb1, hb2, _⟩ := hb
  obtain ⟨ca, cc, rfl, hc1, hc2, _⟩ := hc
  have hlb : (l.length : Int) ≤ 9223372036854775807 := by unfold maxLen at hb2; omega
  have hlc : (m.length : Int) ≤ 9223372036854775807 := by unfold maxLen at hc2; omega
  clear hb2 hc2
  have hka : ∀ o o' : Obj, Kept NoB w ((w.alloc o).alloc o') := fun o o' => ((Kept.refl _ _).alloc o).alloc o'
  by_cases hl : 17000 < l.length ∨ 17000 < m.length
  · have hcase : (17000 < l.length) ∨ (l.length ≤ 17000 ∧ 17000 < m.length) := by omega
    have HKA := Lib.hid hka
    clear hl hka
    rcases hcase with h1 | ⟨h1, h2⟩
    · have d1 : (17000 : Int) < (l.length : Int) := by omega
      go_enter Try.func6, Try.ntmps6
      go_wp2_with fail
      refine (awake3_any _).mono ?_
      rintro e w1 ⟨rfl, hk1⟩
      go_wp2
      go_ret
      exact ⟨rfl, (HKA.out _ _).trans hk1 (fun _ _ h => h)⟩
    · go_enter Try.func6, Try.ntmps6
      go_wp2_with fail
      refine (awake3_any _).mono ?_
      rintro e w1 ⟨rfl, hk1⟩
      go_wp2
      go_ret
      exact ⟨rfl, (HKA.out _ _).trans hk1 (fun _ _ h => h)⟩
  · have h1 : l.length ≤ 17000 := by omega
    have h2 : m.length ≤ 17000 := by omega
    have HKA := Lib.hid hka
    clear hl hka
    have g1 : (l.length : Int) ≤ 17000 := by omega
    have g2 : (m.length : Int) ≤ 17000 := by omega
    go_enter Try.func6, Try.ntmps6
    go_wp2_with fail
    refine (CNew_any _).mono ?_
    rintro e w1 ⟨rfl, ht1, hk1⟩
    have HT1 := Lib.hid ht1
    have HB1 := Lib.hid ((HB.out.kept (HKA.out _ _) (fun _ _ h => h)).kept hk1 (fun _ _ h => h))
    have HC1 := Lib.hid ((HC.out.kept (HKA.out _ _) (fun _ _ h => h)).kept hk1 (fun _ _ h => h))
    have HK1 := Lib.hid ((HKA.out _ _).trans hk1 (fun _ _ h => h))
    have hw1 : ((w.alloc (.cells #[.int .u8 (k : Int), .slice ba l.length bc] 76)).alloc (.cells #[.int .u8 (j : Int), .slice ca m.length cc] 76)).heap[w.heap.size]? = some (.cells #[.int .u8 (k : Int), .slice ba l.length bc] 76 (0, 0)) := (heap_alloc_old _ _ (by simp)).trans (heap_alloc_new w _)
    have bf1 := hk1.heap (fun h => h) hw1
    have bg1 : w1.heap[w.heap.size + 1]? = some (.cells #[.int .u8 (j : Int), .slice ca m.length cc] 76 (0, 0)) := by
      have := hk1.heap (fun h => h) (heap_alloc_new (w.alloc (.cells #[.int .u8 (k : Int), .slice ba l.length bc] 76)) (.cells #[.int .u8 (j : Int), .slice ca m.length cc] 76))
      simpa only [World.size_alloc] using this
    simp only [World.size_alloc] at HT1 ⊢
    have BF1 := Lib.hid bf1
    have BG1 := Lib.hid bg1
    have ht1l := HT1.out.lt
    clear ht1 hk1 bf1 bg1 hw1
    go_wp2_with fail
    refine (FNew_any (w.heap.size + 1 + 1) _).mono ?_
    rintro e w2 ⟨rfl, hc2, hk2⟩
    have HT2 := Lib.hid (HT1.out.kept hk2 (fun h => h))
    have HC2 := Lib.hid hc2
    have HB2 := Lib.hid (HB1.out.kept hk2 (fun _ _ h => h))
    have HK2 := Lib.hid (HK1.out.trans hk2 (fun _ _ h => h))
    have BF2 := Lib.hid (hk2.heap (fun h => h) BF1.out)
    have BG2 := Lib.hid (hk2.heap (fun h => h) BG1.out)
    have hc2l := hc2.lt
    have f0 : w2.cell? ⟨w.heap.size, 0, none⟩ = some (.int .u8 (k : Int)) := cell_of_row w2 _ 0 _ _ _ BF2.out
    have f1 : w2.cell? ⟨w.heap.size, 1, none⟩ = some (.slice ba l.length bc) := cell_of_row w2 _ 1 _ _ _ BF2.out
    clear hc2 hk2
    go_wp2_with fail
    refine (ours_any (k : Int) ba l.length bc _).mono ?_
    rintro e w3 ⟨rfl, hk3⟩
    have hC3 := HC2.out.kept hk3 (fun h => h)
    have hB3 := HB2.out.kept hk3 (fun _ _ h => h)
    have hT3 := HT2.out.kept hk3 (fun h => h)
    go_wp2_with fail
    refine (FPut_any w1.heap.size (w.heap.size + 1 + 1) false 0 0 k _ l _ _ hC3 hT3 hk hB3 (by omega)).mono ?_
    rintro e w4 ⟨v4, rfl, hv4, ht4, hk4⟩
    have HV4 := Lib.hid hv4
    obtain ⟨va, vc, rfl⟩ := own_form hv4.2.1
    have hk24 : Kept (One (w.heap.size + 1 + 1)) w2 w4 := (hk3.mono (fun _ _ h => h.elim)).trans hk4 (fun _ _ h => h)
    have HK4 := Lib.hid (HK2.out.one_new hk24 (by omega))
    have BF4 := Lib.hid (hk24.heap (fun h => by have e : w.heap.size = w.heap.size + 1 + 1 := h; omega) BF2.out)
    have BG4 := Lib.hid (hk24.heap (fun h => by have e : w.heap.size + 1 = w.heap.size + 1 + 1 := h; omega) BG2.out)
    have f0 : w4.cell? ⟨w.heap.size, 0, none⟩ = some (.int .u8 (k : Int)) := cell_of_row w4 _ 0 _ _ _ BF4.out
    have f1 : w4.cell? ⟨w.heap.size, 1, none⟩ = some (.slice ba l.length bc) := cell_of_row w4 _ 1 _ _ _ BF4.out
    clear hv4 ht4 hk4 hk24 hC3 hB3 hT3 hk3
    go_wp2_with fail
    refine (RPutF_any k _ l _ _ hk (HB.out.kept HK4.out (fun _ _ h => h)) (by omega)).mono ?_
    rintro e w5 ⟨v5, rfl, hv5, hk5⟩
    have HV5 := Lib.hid hv5
    obtain ⟨ua, uc, rfl⟩ := own_form hv5.2.1
    have HV45 := Lib.hid (HV4.out.kept hk5 (fun _ _ h => h))
    have HK5 := Lib.hid (HK4.out.trans hk5 (fun _ _ h => h))
    have bf5 := hk5.heap (fun h => h) BF4.out
    have bg5 := hk5.heap (fun h => h) BG4.out
    have f0 : w5.cell? ⟨w.heap.size, 0, none⟩ = some (.int .u8 (k : Int)) := cell_of_row w5 _ 0 _ _ _ bf5
    have f1 : w5.cell? ⟨w.heap.size, 1, none⟩ = some (.slice ba l.length bc) := cell_of_row w5 _ 1 _ _ _ bf5
    have g0 : w5.cell? ⟨w.heap.size + 1, 0, none⟩ = some (.int .u8 (j : Int)) := cell_of_row w5 _ 0 _ _ _ bg5
    have g1 : w5.cell? ⟨w.heap.size + 1, 1, none⟩ = some (.slice ca m.length cc) := cell_of_row w5 _ 1 _ _ _ bg5
    obtain ⟨pe, hpe⟩ : ∃ pe, pe = (putF k l).2 := ⟨_, rfl⟩
    obtain ⟨pl, hpl⟩ : ∃ pl, pl = (putF k l).1 := ⟨_, rfl⟩
    rw [← hpe, ← hpl]
    rw [← hpl] at HV45 HV5
    have HKc := Lib.hid (show Kept NoB w5 w5 from Kept.refl _ _)
    obtain ⟨y, hy⟩ : ∃ y, y = (decide ((k : Int) = (j : Int)) && decide (l = m)) := ⟨_, rfl⟩
    have HY := Lib.hid hy
    have HLB := Lib.hid (HB.out.kept HK5.out (fun _ _ h => h))
    have HLC := Lib.hid (HC.out.kept HK5.out (fun _ _ h => h))
    clear hv5 hk5 bf5 bg5 hpe hpl hy
    have hw7 : IntKind.i64.wrap ((l.length : Int) + 7) = (l.length : Int) + 7 := IntWalk.i64_in _ (by omega)
    go_wp2_with fail
    go_region_held3 (fun w' => w'.cell? ⟨w.heap.size, 0, none⟩ = some (.int .u8 (k : Int)) ∧ w'.cell? ⟨w.heap.size, 1, none⟩ = some (.slice ba l.length bc) ∧ w'.cell? ⟨w.heap.size + 1, 0, none⟩ = some (.int .u8 (j : Int)) ∧ w'.cell? ⟨w.heap.size + 1, 1, none⟩ = some (.slice ca m.length cc))
      (first
        | exact ⟨HKc.out.cell (p := ⟨w.heap.size, 0, none⟩) (fun h => h) f0, HKc.out.cell (p := ⟨w.heap.size, 1, none⟩) (fun h => h) f1, HKc.out.cell (p := ⟨w.heap.size + 1, 0, none⟩) (fun h => h) g0, HKc.out.cell (p := ⟨w.heap.size + 1, 1, none⟩) (fun h => h) g1⟩
        | exact ⟨cell_drew f0, cell_drew f1, cell_drew g0, cell_drew g1⟩
        | go_keep)
      (first
        | (go_at_call 23; refine (Same_any _ _ pl pl _ _ _ (HV45.out.bsl.kept (by exact HKc.out.drew) (fun _ _ h => h)) (HV5.out.bsl.kept (by exact HKc.out.drew) (fun _ _ h => h))).mono ?_; rintro e w6 ⟨rfl, hk6⟩; rw [decide_eq_true (rfl : pl = pl)]; replace HKc := Lib.hid (HKc.out.drew.trans hk6 (fun _ _ h => h)); clear hk6)
        | (go_at_call 40; refine (ours_any _ _ _ _ _).mono ?_; rintro e w6 ⟨rfl, hk6⟩; replace HKc := Lib.hid (HKc.out.trans hk6 (fun _ _ h => h)); clear hk6)
        | (go_at_call 42; refine (FSize_any _ _ l _ _ (HLB.out.kept HKc.out (fun _ _ h => h)) (by omega)).mono ?_; rintro e w6 ⟨rfl, hk6⟩; replace HKc := Lib.hid (HKc.out.trans hk6 (fun _ _ h => h)); clear hk6)
        | (go_at_call 43; refine (FSame_any _ _ _ _ l m _ _ _ (HLB.out.kept HKc.out (fun _ _ h => h)) (HLC.out.kept HKc.out (fun _ _ h => h))).mono ?_; rintro e w6 ⟨rfl, hk6⟩; rw [← HY.out]; replace HKc := Lib.hid (HKc.out.trans hk6 (fun _ _ h => h)); clear hk6)
        | (go_at_call 44; refine (RSameF_any _ _ _ _ l m _ _ _ (HLB.out.kept HKc.out (fun _ _ h => h)) (HLC.out.kept HKc.out (fun _ _ h => h))).mono ?_; rintro e w6 ⟨rfl, hk6⟩; rw [← HY.out]; replace HKc := Lib.hid (HKc.out.trans hk6 (fun _ _ h => h)); clear hk6)
        | (go_at_call 37; refine (awake3_any _).mono ?_; rintro e w6 ⟨rfl, hk6⟩; replace HKc := Lib.hid (HKc.out.trans hk6 (fun _ _ h => h)); clear hk6))
    all_goals go_wp2
    all_goals go_ret
    all_goals exact ⟨rfl, HK5.out.trans HKc.out (fun _ _ h => h)⟩
end Go.Proofs.Ytpcacndbagiajaa
