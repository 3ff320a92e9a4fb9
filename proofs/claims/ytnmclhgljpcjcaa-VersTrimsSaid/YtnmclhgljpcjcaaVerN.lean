/-
  catenaryref15: Trim.
-/
import Derived.Test.YtnmclhgljpcjcaaVerM
namespace Go.Proofs.Ytnmclhgljpcjcaa
open Go.RowKit
set_option linter.unusedVariables false

def NewOr (F : Nat → Prop) (n : Nat) : Nat → Prop := fun k => F k ∨ n ≤ k
def RtRel (W : World) (cb : Nat) (l : List Vn) (x : Vn) (u : Value) (F : Nat → Prop) (ov iv : Value) (wr : World) : Prop :=
  ∃ (k : Nat) (ps : List (Vn × Value)), k ≤ l.length ∧ iv = .int .i64 k ∧ VOw 36 W.heap.size wr ov ps ∧ ps.map Prod.fst = gesV (l.take k) x.q ∧ DatIn wr F ps ∧ Kept NoB W wr
/-- What Trim tells. -/
def RTrimEnd (w : World) (F : Nat → Prop) (l : List Vn) (done : Int) (e : Ending) (w' : World) : Prop :=
  ∃ v', e = .returned (.tuple #[v', .int .i64 (trimN l done)]) ∧ VsAt w' (NewOr F w.heap.size) v' (trimV l done) ∧ Kept NoB w w'
set_option maxRecDepth 100000 in
set_option maxHeartbeats 1000000 in
theorem RTrim15 (w : World) (v : Value) (l : List Vn) (done : Int) (F : Nat → Prop) (h : VsAt w F v l) (hasc : Asc l) (hF : ∀ k, F k → k < w.heap.size) (hl : l.length ≤ 1000) : Calls Try.prog 21 #[v, .int .u64 done] w (RTrimEnd w F l done) := by
  obtain ⟨i0, hi0, hz0, hz1, hz2⟩ := info_parts info_rvers
  obtain ⟨a, c, rfl⟩ := h.form
  have HC := Lib.hid (RClean15 w _ l done F h hasc hF)
  have HV := Lib.hid h
  have HA := Lib.hid hasc
  have HF := Lib.hid hF
  have hll : (l.length : Int) ≤ 1000 := by omega
  clear h hasc hF
  go_enter Try.func21, Try.ntmps21
  go_wp2_with fail
  refine HC.out.mono ?_
  rintro e w1 ⟨v1, rfl, hv1, hk1⟩
  obtain ⟨⟨x0, x1, x2⟩, hx⟩ : ∃ x, x = cleanV l done := ⟨_, rfl⟩
  rw [← hx] at hv1
  obtain ⟨u, rfl, hu⟩ := hv1
  obtain ⟨ua, uc, rfl, _⟩ := hu
  simp only
  have HX := Lib.hid hx
  have HK1 := Lib.hid hk1
  have hkw := hk1.alloc (.cells #[.int .u64 x0, .int .u64 x1, .slice ua x2.length uc] 36)
  have hcb := heap_alloc_new w1 (.cells #[.int .u64 x0, .int .u64 x1, .slice ua x2.length uc] 36)
  clear hx hk1
  go_wp2_with fail
  obtain ⟨W, hW⟩ : ∃ W, W = w1.alloc (.cells #[.int .u64 x0, .int .u64 x1, .slice ua x2.length uc] 36) := ⟨_, rfl⟩
  have HSW : Hid (W.heap.size = w1.heap.size + 1) := Lib.hid (by rw [hW]; simp)
  rw [← hW] at hkw hcb ⊢
  have HKW := Lib.hid hkw
  have HCB := Lib.hid hcb
  clear hkw hcb hW
  go_loopw [7, 8] (RtRel W w1.heap.size l ⟨x0, x1, x2⟩ (.slice ua x2.length uc) F) (fun _ i _ => l.length - (RowKit.intOf i).toNat)
  case atStart => exact ⟨0, [], Nat.zero_le _, rfl, VOw.nil _ _ _, rfl, (fun p hp => by cases hp), Kept.refl _ _⟩
  case round =>
    obtain ⟨k, ps, hk, rfl, hown, hps, hdat, hK⟩ := hrel
    have HPS := Lib.hid hps
    have HD := Lib.hid hdat
    have HKR := Lib.hid hK
    have HO := Lib.hid hown
    have HCR := Lib.hid (hK.heap (fun h => h) HCB.out)
    have hvr := (HV.out.no HKW.out).no hK
    have hk0 : (0 : Int) ≤ (k : Int) := by omega
    have hpl : ps.length ≤ 1000 := by
      have := congrArg List.length hps
      rw [List.length_map] at this
      have h2 : (gesV (l.take k) x1).length ≤ (l.take k).length := List.length_filter_le _ _
      rw [List.length_take] at h2
      simp only at this
      omega
    obtain ⟨oa, oc, rfl⟩ := hown.form
    obtain ⟨c0, c1, c2⟩ := cells3v HCR.out
    have hsr := hK.size
    clear hown hps hdat hK
    by_cases hlt : k < l.length
    · have hk1 : (k : Int) < (l.length : Int) := by omega
      have hg := gesV_take (q := x1) hlt
      obtain ⟨b, o, rfl, hFb, hb, u', e0, e1, e2, hd⟩ := hvr.at_ hlt
      obtain ⟨⟨y0, y1, y2⟩, hy⟩ : ∃ y, y = nthV l k := ⟨_, rfl⟩
      rw [← hy] at e0 e1 hd hg
      simp only at e0 e1 hd hg
      have HDD := Lib.hid hd
      obtain ⟨va, vc, rfl, _⟩ := hd
      clear hvr hy hFb hb
      by_cases hq : x1 ≤ y1
      · rw [if_pos hq] at hg
        have HG := Lib.hid hg
        have hqb : decide (x1 ≤ y1) = true := decide_eq_true hq
        clear hg
        go_wp2_with fail
        go_quiet (fail)
        have hK2 := ((Kept.refl NoB wr).drewN nq).alloc (.cells #[.int .u64 y0, .int .u64 y1, .slice va y2.length vc] 36)
        have HO2 := Lib.hid (HO.out.no hK2)
        have HK2 := Lib.hid (HKR.out.trans hK2 (fun _ _ h => h))
        have HD2 := Lib.hid (HD.out.kept hK2 (fun _ _ h => h))
        have HDD2 := Lib.hid (HDD.out.kept hK2 (fun _ _ h => h))
        have HZ := Lib.hid (heap_alloc_new (wr.drewN nq) (.cells #[.int .u64 y0, .int .u64 y1, .slice va y2.length vc] 36))
        clear hK2
        go_wp2_with (at_builtin; refine wpList_append_v1 32 36 i0 Try.underlying32 hi0 hz0 hz1 hz2 _ rfl _ _ rfl W.heap.size (.slice oa ps.length oc) ps rfl HO2.out wr.heap.size ⟨y0, y1, y2⟩ (.slice va y2.length vc) _ rfl HZ.out rfl (by omega) HK2.out.size (ps.length + 1) rfl ?_; intro a' c' w' hown' hgrow' hat')
        have hk3 : Kept NoB W w' := HK2.out.grown hgrow' (fun i hi => .inr (HO2.out.base i hi).1)
        refine ⟨⟨k + 1, ps ++ [(⟨y0, y1, y2⟩, .slice va y2.length vc)], by omega, by go_num, hown', ?_, ?_, hk3⟩, by simp [RowKit.intOf]; omega⟩
        · rw [HG.out, List.map_append, HPS.out]
          rfl
        · have hk4 : Kept (fun i => some i = (Value.slice oa ps.length oc).ownBlock) ((wr.drewN nq).alloc (.cells #[.int .u64 y0, .int .u64 y1, .slice va y2.length vc] 36)) w' := (Kept.refl _ _).grown hgrow' (fun i hi => .inl hi.symm)
          have hFo : ∀ i, F i → ¬ some i = (Value.slice oa ps.length oc).ownBlock := fun i hi h => by
            have h1 := (HO2.out.base i h.symm).1
            have h2 := HF.out i hi
            have h3 := HKW.out.size
            omega
          intro p hm
          rcases List.mem_append.1 hm with hm | hm
          · exact (HD2.out p hm).kept hk4 hFo
          · obtain rfl : p = (⟨y0, y1, y2⟩, .slice va y2.length vc) := by simpa using hm
            exact HDD2.out.kept hk4 hFo
      · rw [if_neg hq, List.append_nil] at hg
        have HG := Lib.hid hg
        have hqb : decide (x1 ≤ y1) = false := decide_eq_false hq
        clear hg
        go_wp2_with fail
        go_quiet (fail)
        go_wp2
        exact ⟨⟨k + 1, ps, by omega, by go_num, HO.out.no ((Kept.refl NoB _).drewN _), by rw [HG.out]; exact HPS.out, HD.out.kept ((Kept.refl NoB _).drewN _) (fun _ _ h => h), HKR.out.drewN _⟩, by simp [RowKit.intOf]; omega⟩
    · obtain rfl : k = l.length := by omega
      clear hvr
      go_wp2
      go_ret2
      have hg : ps.map Prod.fst = trimV l done := by
        rw [HPS.out, List.take_length, ← gesV_trim HA.out done, ← HX.out]
      have hpn : ps.length = l.length - trimN l done := by
        rw [← trimV_len, ← hg, List.length_map]
      have htn := trimN_le l done
      refine ⟨.slice oa ps.length oc, ?_, ?_, HKW.out.trans HKR.out (fun _ _ h => h)⟩
      · have : (l.length : Int) - (ps.length : Int) = ((trimN l done : Nat) : Int) := by omega
        rw [this]
        rfl
      · rw [← hg]
        exact HO.out.vs (fun k hk => .inr (by have := (HO.out.base k hk).1; have := HKW.out.size; omega)) (HD.out.mono (fun k _ h => .inl h))
end Go.Proofs.Ytnmclhgljpcjcaa
