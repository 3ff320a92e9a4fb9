/-
  Package window: From; Add.
-/
import Derived.Test.YtabjpmkkigflmaaGreatDoorWinE
import Derived.Test.YtabjpmkkigflmaaGreatDoorLtrJ
namespace Go.Proofs.YtabjpmkkigflmaaGreatDoor
open Go.RowKit
set_option linter.unusedVariables false
set_option linter.unusedSimpArgs false

/-- A part of what a window holds, as updates. -/
theorem WinH.part {w w' : World} {S : Nat → Prop} {b : Nat} {x : Wn} {a : Option Addr} {c : Nat} {ps : List (Up × Value)} (H : WinH w S b x (.slice a ps.length c) ps) (ok : WnOk x) (hrd : HeldRd w (But S b) a ps) (hpl : ps.length ≤ 100000) (hk : Kept NoB w w') (f t : Nat) (h1 : x.low ≤ f) (h2 : f ≤ t) (h3 : t ≤ x.en) (a' : Option Addr) (ha : f - x.low < t - x.low → a' = a.map (·.add ((f - x.low) * 7))) (hn : a' = none → a = none) :
    UsAt w' S (.slice a' (t - f) (t - f)) (betW x f t) := by
  have hlen := H.len
  have hol := ok.len
  have hcl := (hrd.kept hk (fun _ _ h => h)).part (f - x.low) (t - x.low) (by omega) (by omega) hpl a' ha hn
  rw [show t - x.low - (f - x.low) = t - f by omega] at hcl
  obtain ⟨a2, e, h4, h5, h6⟩ := hcl
  have hl : ((ps.take (t - x.low)).drop (f - x.low)).length = t - f := by rw [List.length_drop, List.length_take]; omega
  rw [hl] at e h4
  injection e with e
  subst e
  have hd : DatU w' S ((ps.take (t - x.low)).drop (f - x.low)) := fun p hp => ((H.data.no hk).mono (fun k _ hk => hk.1)).u p (List.mem_of_mem_take (List.mem_of_mem_drop hp))
  have := h6.us (F := S) (c := t - f) (fun k hk => hk.1) hd (by omega) (by unfold maxLen; omega) (fun h => by have := h5 h; omega)
  rw [hl] at this
  have em : ((ps.take (t - x.low)).drop (f - x.low)).map Prod.fst = betW x f t := by rw [List.map_drop, List.map_take, H.same]; rfl
  rw [em] at this
  exact this
def inB (x : Wn) (got : Nat) : Bool := decide (x.low ≤ got) && decide (got ≤ x.en)
def fromL (x : Wn) (got : Nat) (most : Int) : List Up := if inB x got = true then selU (batU got most) 0 x.l else []
set_option maxRecDepth 100000 in
set_option maxHeartbeats 1000000 in
theorem WFrom_any (w : World) (S : Nat → Prop) (b : Nat) (x : Wn) (H : WinAt w S b x) (ok : WnOk x) (got : Nat) (most : Int) : Calls Tryz.prog 23 #[pw b, .int .u64 got, .int .i64 most] w fun e w' => ∃ a c, e = .returned (.tuple #[.slice a (fromL x got most).length c, .bool (inB x got)]) ∧ UsAt w' (fun k => w.heap.size ≤ k) (.slice a (fromL x got most).length c) (fromL x got most) ∧ Kept NoB w w' := by
  obtain ⟨h, ps, H⟩ := H
  obtain ⟨a, c, rfl, hc1, hc2, hc3, hrd, hpl⟩ := H.held.rd
  have hlen := H.len
  have hol := ok.len
  have htop := ok.top
  obtain ⟨c0, c1, c2, c3⟩ := cells4w H.blk
  by_cases h1 : got < x.low
  · have hb : inB x got = false := by unfold inB; rw [decide_eq_false (by omega)]; rfl
    have hL : fromL x got most = [] := by unfold fromL; rw [hb]; rfl
    have h1i : (got : Int) < (x.low : Int) := by omega
    have HE := Lib.hid (And.intro hb hL)
    rw [hb, hL]
    clear hb hL H hrd hc1 hc2 hc3
    go_enter Tryz.func23, Tryz.ntmps23
    go_wp2
    exact bodyPost_ret (v := .tuple #[.slice none 0 0, .bool false]) (by simp [results, Tryz.results23, go_sem]) rfl ⟨none, 0, rfl, UsAt.nil _ _, Kept.refl _ _⟩
  · have h1d : decide ((got : Int) < (x.low : Int)) = false := decide_eq_false (by omega)
    by_cases h2 : x.en < got
    · have hb : inB x got = false := by unfold inB; rw [decide_eq_false (show ¬ got ≤ x.en by omega)]; simp
      have hL : fromL x got most = [] := by unfold fromL; rw [hb]; rfl
      have h2i : (x.en : Int) < (got : Int) := by omega
      rw [hb, hL]
      clear hb hL H hrd hc1 hc2 hc3
      go_enter Tryz.func23, Tryz.ntmps23
      go_wp2
      exact bodyPost_ret (v := .tuple #[.slice none 0 0, .bool false]) (by simp [results, Tryz.results23, go_sem]) rfl ⟨none, 0, rfl, UsAt.nil _ _, Kept.refl _ _⟩
    · have h2d : decide ((x.en : Int) < (got : Int)) = false := decide_eq_false (by omega)
      have hb : inB x got = true := by unfold inB; rw [decide_eq_true (show x.low ≤ got by omega), decide_eq_true (show got ≤ x.en by omega)]; rfl
      have hL : fromL x got most = selU (batU got most) 0 (betW x got x.en) := by unfold fromL; rw [hb, if_pos rfl, bat_from ok got most (by omega) (by omega)]
      have HB : Hid (Calls Tryz.prog 81 #[pw b, .int .u64 got, .int .u64 x.en] w (BetE a (got - x.low) (x.en - x.low) w)) := Lib.hid (by
        have := between_any w b a ps.length c x.low (got - x.low) (x.en - x.low) _ _ H.blk (by omega) (by omega) hc2 (by omega)
        rw [show x.low + (got - x.low) = got by omega, show x.low + (x.en - x.low) = x.en by omega] at this
        exact this)
      have HP := Lib.hid (fun w' hk a' ha hn => WinH.part H ok hrd hpl (w' := w') hk got x.en (by omega) (by omega) (Nat.le_refl _) a' ha hn)
      have HBT := Lib.hid (fun w' v (hu : UsAt w' S v (betW x got x.en)) (hS : ∀ k, S k → k < w'.heap.size) => Batch_any w' v (betW x got x.en) got most S hu hS (betW_fit ok _ _) (by rw [betW_len ok (by omega) (by omega) (Nat.le_refl _)]; have := ok.few; omega) (betW_small ok _ _))
      have HS := Lib.hid H.bound
      have hsub : x.en - x.low - (got - x.low) = x.en - got := by omega
      rw [hb, hL]
      have h1N : decide (got < x.low) = false := decide_eq_false h1
      have h2N : decide (x.en < got) = false := decide_eq_false h2
      clear hb hL hrd hc1 hc2 hc3
      go_enter Tryz.func23, Tryz.ntmps23
      go_wp2_with fail
      refine HB.out.mono ?_
      rintro e w1 ⟨a1, rfl, ha1, hn1, hk1⟩
      rw [hsub]
      have HU := Lib.hid (HP.out w1 hk1 a1 ha1 hn1)
      have HK1 := Lib.hid hk1
      clear hk1 ha1 hn1 H
      go_wp2_with fail
      refine (HBT.out w1 _ HU.out (fun k hk => Nat.lt_of_lt_of_le (HS.out k hk) HK1.out.size)).mono ?_
      intro e w2 h2
      obtain ⟨a2, n2, rfl, hu2, hk2⟩ := h2.us
      have HU2 := Lib.hid (hu2.mono (G := fun k => w.heap.size ≤ k) (fun k _ hk => Nat.le_trans HK1.out.size hk))
      have HK2 := Lib.hid (HK1.out.trans hk2 (fun _ _ h => h))
      clear h2 hu2 hk2
      go_wp2
      exact bodyPost_ret (v := .tuple #[.slice a2 (selU (batU got most) 0 (betW x got x.en)).length n2, .bool true]) (by simp [results, Tryz.results23, go_sem]) rfl ⟨_, _, rfl, HU2.out, HK2.out⟩
end Go.Proofs.YtabjpmkkigflmaaGreatDoor
