/-
  catenaryref03: Put, Same; ours, like and awake of the statements of layer 3.
-/
import Derived.Test.YtpcacndbagiajaaFrmE
namespace Go.Proofs.Ytpcacndbagiajaa
open Go.RowKit

set_option maxRecDepth 100000 in
/-- ours. -/
theorem ours_any (k : Int) (a : Option Addr) (n c : Nat) (w : World) : Calls Try.prog 40 #[.agg #[.int .u8 k, .slice a n c]] w fun e w' => e = .returned (.agg #[.int .u8 k, .slice a n c]) ∧ Kept NoB w w' := by
  go_enter Try.func40, Try.ntmps40
  go_wp2
  refine bodyPost_ret (v := .agg #[.int .u8 k, .slice a n c]) (by simp [results, Try.results40, go_sem]) rfl ⟨rfl, ?_⟩
  exact ((Kept.refl _ _).alloc _).alloc _

set_option maxRecDepth 100000 in
/-- like. -/
theorem like_any (k j : Int) (b c : Value) (l m : List Int) (F G : Nat → Prop) (w : World) (hb : BSl w F b l) (hc : BSl w G c m) :
    Calls Try.prog 49 #[.agg #[.int .u8 k, b], .agg #[.int .u8 j, c]] w fun e w' => e = .returned (.bool (decide (k = j) && decide (l = m))) ∧ Kept NoB w w' := by
  have HB := Lib.hid hb
  have HC := Lib.hid hc
  obtain ⟨ba, bc, rfl, _⟩ := hb
  obtain ⟨ca, cc, rfl, _⟩ := hc
  have hk : ∀ o o' : Obj, Kept NoB w ((w.alloc o).alloc o') := fun o o' => ((Kept.refl _ _).alloc _).alloc _
  by_cases hkj : k = j
  · have e1 : (k == j) = true := by simpa using hkj
    have HJ := Lib.hid hkj
    clear hkj
    go_enter Try.func49, Try.ntmps49
    go_wp2_with fail
    refine (Same_any _ _ l m F G _ (HB.out.kept (hk _ _) (fun _ _ h => h)) (HC.out.kept (hk _ _) (fun _ _ h => h))).mono ?_
    rintro e w1 ⟨rfl, hk1⟩
    go_wp2
    go_ret
    refine ⟨?_, (hk _ _).trans hk1 (fun _ _ h => h)⟩
    rw [decide_eq_true HJ.out, Bool.true_and]
    rfl
  · have e1 : (k == j) = false := by simpa using hkj
    rw [decide_eq_false hkj, Bool.false_and]
    clear hkj
    go_enter Try.func49, Try.ntmps49
    go_wp2
    go_ret
    exact ⟨rfl, hk _ _⟩

set_option maxRecDepth 100000 in
/-- Same, by definition. -/
theorem RSameF_any (k j : Int) (b c : Value) (l m : List Int) (F G : Nat → Prop) (w : World) (hb : BSl w F b l) (hc : BSl w G c m) :
    Calls Try.prog 44 #[.agg #[.int .u8 k, b], .agg #[.int .u8 j, c]] w fun e w' => e = .returned (.bool (decide (k = j) && decide (l = m))) ∧ Kept NoB w w' := by
  have HB := Lib.hid hb
  have HC := Lib.hid hc
  obtain ⟨ba, bc, rfl, _⟩ := hb
  obtain ⟨ca, cc, rfl, _⟩ := hc
  have hk : ∀ o o' : Obj, Kept NoB w ((w.alloc o).alloc o') := fun o o' => ((Kept.refl _ _).alloc _).alloc _
  by_cases hkj : k = j
  · have e1 : (k == j) = true := by simpa using hkj
    have HJ := Lib.hid hkj
    clear hkj
    go_enter Try.func44, Try.ntmps44
    go_wp2_with fail
    refine (Same_any _ _ l m F G _ (HB.out.kept (hk _ _) (fun _ _ h => h)) (HC.out.kept (hk _ _) (fun _ _ h => h))).mono ?_
    rintro e w1 ⟨rfl, hk1⟩
    go_wp2
    go_ret
    refine ⟨?_, (hk _ _).trans hk1 (fun _ _ h => h)⟩
    rw [decide_eq_true HJ.out, Bool.true_and]
    rfl
  · have e1 : (k == j) = false := by simpa using hkj
    rw [decide_eq_false hkj, Bool.false_and]
    clear hkj
    go_enter Try.func44, Try.ntmps44
    go_wp2
    go_ret
    exact ⟨rfl, hk _ _⟩

theorem _root_.Go.World.ownsRow.trans3 {w : World} {e n m : Nat} {v : Value} {xs : List Value} (h : w.ownsRow 0 e 1 v n xs) (hn : n = m) : w.ownsRow 0 e 1 v m xs := hn ▸ h

set_option maxHeartbeats 1000000 in
set_option maxRecDepth 100000 in
/-- Put, by definition. -/
theorem RPutF_any (k : Nat) (b : Value) (l : List Int) (F : Nat → Prop) (w : World) (hk : k < 256) (hb : BSl w F b l) (hl : l.length ≤ 20000) :
    Calls Try.prog 41 #[.agg #[.int .u8 k, b]] w fun e w' => ∃ v', e = .returned (.tuple #[v', .int .i64 (putF k l).2]) ∧ Own w' (fun k => w.heap.size ≤ k) v' (putF k l).1 ∧ Kept NoB w w' := by
  obtain ⟨i0, hi0, hz0, hz1, hz2⟩ := info_parts Try.info5
  have HB := Lib.hid hb
  obtain ⟨ba, bc, rfl, _⟩ := hb
  by_cases hk0 : k = 0
  · subst hk0
    have hp : putF 0 l = ([], 4) := if_pos rfl
    rw [hp]
    clear hp
    go_enter Try.func41, Try.ntmps41
    go_wp2
    go_ret2
    exact ⟨_, rfl, Own.nil _ _, (Kept.refl _ _).alloc _⟩
  · have hkb : ((k : Int) == 0) = false := by rw [beq_eq_false_iff_ne]; omega
    by_cases hlong : 16384 < l.length
    · have hp : putF k l = ([], 6) := by unfold putF; rw [if_neg hk0, if_pos hlong]
      rw [hp]
      clear hp
      go_enter Try.func41, Try.ntmps41
      go_wp2
      go_ret2
      exact ⟨_, rfl, Own.nil _ _, (Kept.refl _ _).alloc _⟩
    · have HP := Lib.hid (show putF k l = ((k : Int) :: (be l.length 2 ++ l) ++ le4 (more 0 ((k : Int) :: (be l.length 2 ++ l))), 0) by unfold putF; rw [if_neg hk0, if_neg hlong])
      have hlw : IntKind.u64.wrap (l.length : Int) = (l.length : Int) := IntWalk.u64_in _ (by omega)
      go_enter Try.func41, Try.ntmps41
      go_wp2_with fail
      have d0 : (w.alloc (.cells #[.int .u8 (k : Int), .slice ba l.length bc] 76)).cell? ⟨w.heap.size, 0, none⟩ = some (.int .u8 (k : Int)) := cell_of_row _ _ 0 _ _ _ (heap_alloc_new w _)
      have d1 : (w.alloc (.cells #[.int .u8 (k : Int), .slice ba l.length bc] 76)).cell? ⟨w.heap.size, 1, none⟩ = some (.slice ba l.length bc) := cell_of_row _ _ 1 _ _ _ (heap_alloc_new w _)
      have HK0 := Lib.hid (show Kept NoB w (w.alloc (.cells #[.int .u8 (k : Int), .slice ba l.length bc] 76)) from (Kept.refl _ _).alloc _)
      have hsz : w.heap.size < (w.alloc (.cells #[.int .u8 (k : Int), .slice ba l.length bc] 76)).heap.size := by simp
      generalize w.alloc (.cells #[.int .u8 (k : Int), .slice ba l.length bc] 76) = w0 at *
      have hn2 : Hid (l.length < 256 ^ 2) := by show l.length < 256 ^ 2; omega
      have hne : ¬ w.heap.size = w0.heap.size := by omega
      go_region_held3 (fun w' => w'.cell? ⟨w.heap.size, 0, none⟩ = some (.int .u8 (k : Int)) ∧ w'.cell? ⟨w.heap.size, 1, none⟩ = some (.slice ba l.length bc))
        (first
          | exact ⟨q0, q1⟩
          | exact ⟨cell_alloc q0 _, cell_alloc q1 _⟩
          | exact ⟨cell_drew d0, cell_drew d1⟩
          | exact ⟨cell_drew (cell_alloc d0 _), cell_drew (cell_alloc d1 _)⟩
          | exact ⟨cell_alloc (cell_drew d0) _, cell_alloc (cell_drew d1) _⟩
          | exact ⟨(hgrow.cell_far ⟨w.heap.size, 0, none⟩ hlt3 hrow).trans hq0, (hgrow.cell_far ⟨w.heap.size, 1, none⟩ hlt3 hrow).trans hq1⟩
          | go_keep)
        (first
        | (go_at_call 65; refine (Big_any l.length 2 _ (by omega) (by omega) hn2).mono ?_; rintro e w3 ⟨bv, rfl, hbv, hk3⟩; obtain ⟨g, cp, rfl, _, hgl⟩ := hbv.2.1.form (by rw [be_len]; omega); rw [be_len]; have q0 := hk3.cell (p := ⟨w.heap.size, 0, none⟩) (fun h => h) (by first | exact cell_drew d0 | exact cell_drew (cell_alloc d0 _)); have q1 := hk3.cell (p := ⟨w.heap.size, 1, none⟩) (fun h => h) (by first | exact cell_drew d1 | exact cell_drew (cell_alloc d1 _)); have HBV := Lib.hid hbv; have HK3 := Lib.hid hk3; have hszz := hk3.size; clear hbv hk3)
        | (refine step_append_lies _ (by rfl) _ _ _ (by rfl) 0 5 i0 _ 1 1 Try.underlying22 hi0 hz0 hz1 hz2 rfl (by omega) (.slice (some ⟨w0.heap.size, 0, none⟩) 1 1) 1 ([(k : Int)].map (Value.int .u8)) (by rfl) (row_kept ((own_one w0 5 (k : Int)).drew) HK3.out (fun _ _ h => h)) ⟨g, 0, none⟩ 2 cp ((be l.length 2).map (Value.int .u8)) (by rfl) (by rw [List.length_map, be_len]) (HBV.out.2.1.cells rfl) isB_one (by omega) (by unfold maxLen; omega) (by omega) (Nat.zero_le _) w3.heap.size rfl ?_; intro gg cap5 w5 hown5 hgrow hat hlt5; have hlt3 : w.heap.size < w3.heap.size := Nat.lt_of_lt_of_le (by simp; omega) hszz; have hrow : some w.heap.size ≠ Value.ownBlock (.slice (some ⟨w0.heap.size, 0, none⟩) 1 1) := (by simpa [Value.ownBlock] using hne); have hq0 := q0; have hq1 := q1)
        | (refine step_append_lies _ (by rfl) _ _ _ (by rfl) 0 5 i0 _ 1 1 Try.underlying22 hi0 hz0 hz1 hz2 rfl (by omega) (.slice (some ⟨w3.heap.size, 0, none⟩) 1 1) 1 ([(k : Int)].map (Value.int .u8)) (by rfl) ((own_one w3 5 (k : Int))) ⟨g, 0, none⟩ 2 cp ((be l.length 2).map (Value.int .u8)) (by rfl) (by rw [List.length_map, be_len]) ((HBV.out.2.1.alloc _).cells rfl) isB_one (by omega) (by unfold maxLen; omega) (by omega) (Nat.zero_le _) (w3.heap.size + 1) (by simp) ?_; intro gg cap5 w5 hown5 hgrow hat hlt5; have hlt3 : w.heap.size < (w3.alloc (.cells #[.int .u8 (k : Int)] 5)).heap.size := Nat.lt_of_lt_of_le (Nat.lt_of_lt_of_le (by simp; omega) hszz) (by simp); have hrow : some w.heap.size ≠ Value.ownBlock (.slice (some ⟨w3.heap.size, 0, none⟩) 1 1) := (by have : w.heap.size < w3.heap.size := Nat.lt_of_lt_of_le (by simp; omega) hszz; simp [Value.ownBlock]; omega); have hq0 := cell_alloc q0 (.cells #[.int .u8 (k : Int)] 5); have hq1 := cell_alloc q1 (.cells #[.int .u8 (k : Int)] 5)))
      all_goals
        have hk3w : Kept NoB w w3 := by
          first
            | exact (HK0.out.alloc _).drew.trans HK3.out (fun _ _ h => h)
            | exact HK0.out.drew.trans HK3.out (fun _ _ h => h)
        have hszw := hk3w.size
        have hk5 : Kept NoB w w5 := by
          first
            | exact hk3w.grown hgrow (fun k hk => .inr (by simp [Value.ownBlock] at hk; omega))
            | exact (hk3w.alloc _).grown hgrow (fun k hk => .inr (by simp [Value.ownBlock] at hk; omega))
        have hO5 : Own w5 (fun k => w.heap.size ≤ k) (.slice (some ⟨gg, 0, none⟩) 3 cap5) ((k : Int) :: be l.length 2) := by
          refine ⟨fun x hx => ?_, ?_, fun k hk => ?_⟩
          · rcases List.mem_cons.1 hx with rfl | hx
            · omega
            · exact be_isB _ _ x hx
          · rw [List.length_cons, be_len]; exact hown5
          · have hkg : gg = k := by simpa [Value.ownBlock] using hk
            subst hkg
            rcases hat with h2 | h2
            · have h3 : w0.heap.size = gg ∨ w3.heap.size = gg := by simp [Value.ownBlock] at h2; omega
              have := HK3.out.size
              simp at this
              omega
            · have := HK3.out.size
              simp at this
              omega
        have q15 : w5.cell? ⟨w.heap.size, 1, none⟩ = some (.slice ba l.length bc) := (hgrow.cell_far ⟨w.heap.size, 1, none⟩ hlt3 hrow).trans hq1
        have HO5 := Lib.hid hO5
        have HK5 := Lib.hid hk5
        have HB5 := Lib.hid (HB.out.kept hk5 (fun _ _ h => h))
        clear hk5 hO5 hown5 hgrow hat q0 q1 hq0 hq1 hrow hlt3
        have HBL3 := Lib.hid (show ((k : Int) :: be l.length 2).length = 3 by rw [List.length_cons, be_len])
        clear hk3w d0 d1
        go_wp2_with (at_builtin; refine wpList_append_bsl _ rfl (.tmp 21) (.tmp 23) _ rfl 5 i0 _ Try.underlying22 hi0 hz0 hz1 hz2 rfl (.slice (some ⟨gg, 0, none⟩) 3 cap5) 3 ((k : Int) :: be l.length 2) rfl (HO5.out.2.1.trans3 HBL3.out) F _ l rfl HB5.out (by omega) ?_; intro a6 c6 w6 hown6 hg6 hat6)
        have hO5' := HO5.out
        have R := Own.grow (G := fun k => w.heap.size ≤ k) (l := (k : Int) :: be l.length 2) (m := l) (v := .slice (some ⟨gg, 0, none⟩) 3 cap5) (a' := a6) (c' := c6) hO5' HB5.out.isB (fun k _ h => h) (fun k h => by have := HK5.out.size; omega) (by rw [HBL3.out]; exact hown6) hg6 (by rw [HBL3.out]; exact hat6)
        have HR := Lib.hid R
        rw [HBL3.out] at HR
        clear hO5' R hown6 hg6 hat6
        refine (RSeal_any _ ((k : Int) :: be l.length 2 ++ l) _ _ HR.out.1.bsl (by rw [List.length_append, List.length_cons, be_len]; omega)).mono ?_
        rintro e w7 ⟨v7, rfl, hv7, hk7⟩
        go_wp2
        go_ret2
        rw [HP.out]
        have hk56 := HK5.out.trans (HR.out.2.mono (fun k hk h => h)) (T := fun k => w.heap.size ≤ k) (fun i hi h => by omega)
        exact ⟨_, rfl, hv7.mono (fun k _ h => by have := hk56.size; omega), hk56.trans hk7 (fun _ _ h => h)⟩
end Go.Proofs.Ytpcacndbagiajaa
