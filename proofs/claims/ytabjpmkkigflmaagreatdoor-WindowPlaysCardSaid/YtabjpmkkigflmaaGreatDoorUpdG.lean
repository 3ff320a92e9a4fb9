/-
  catenaryref17: Runs, Batch, Fits.
-/
import Derived.Test.YtabjpmkkigflmaaGreatDoorUpdF
import Derived.IntWalk
namespace Go.Proofs.YtabjpmkkigflmaaGreatDoor
open Go.RowKit
set_option linter.unusedVariables false
set_option linter.unusedSimpArgs false

def NewOr17 (F : Nat → Prop) (n : Nat) : Nat → Prop := fun k => F k ∨ n ≤ k
/-- What the chapter's Batch and Fits tell. -/
def RSelE (w : World) (F : Nat → Prop) (out : List Up) (e : Ending) (w' : World) : Prop :=
  ∃ v', e = .returned v' ∧ UsAt w' (NewOr17 F w.heap.size) v' out ∧ Kept NoB w w'
set_option maxRecDepth 100000 in
set_option maxHeartbeats 1000000 in
theorem RBatch_any (w : World) (v : Value) (l : List Up) (after most : Int) (F : Nat → Prop) (h : UsAt w F v l) (hF : ∀ k, F k → k < w.heap.size) (hfit : FitsU l) (hl : l.length ≤ 5000) : Calls Tryz.prog 83 #[v, .int .u64 after, .int .i64 most] w (RSelE w F (selU (batU after most) 0 l)) := by
  obtain ⟨i0, hi0, hz0, hz1, hz2⟩ := info_parts info_upd
  obtain ⟨a, c, rfl⟩ := h.form
  have HU := Lib.hid h
  have HF := Lib.hid hF
  have hll : (l.length : Int) ≤ 5000 := by omega
  have HFI := Lib.hid hfit
  clear h hF hfit
  go_enter Tryz.func83, Tryz.ntmps83
  go_wp2
  go_loopw [7, 8] (fun ov iv wr => ∃ (k : Nat) (ps : List (Up × Value)), k ≤ l.length ∧ iv = .int .i64 k ∧ UOw 34 w.heap.size wr ov ps ∧ ps.map Prod.fst = selU (batU after most) 0 (l.take k) ∧ DatU wr F ps ∧ Kept NoB w wr) (fun _ i _ => l.length - (RowKit.intOf i).toNat)
  case atStart => exact ⟨0, [], Nat.zero_le _, rfl, UOw.nil _ _ _, rfl, (fun p hp => by cases hp), Kept.refl _ _⟩
  case round =>
    obtain ⟨k, ps, hk, rfl, hown, hps, hdat, hK⟩ := hrel
    have HEN : Hid (endU (batU after most) 0 (l.take k) = (ps.length : Int)) := Lib.hid (by rw [endU_bat, ← hps, List.length_map]; omega)
    have HPS := Lib.hid hps
    have HD := Lib.hid hdat
    have HKR := Lib.hid hK
    have HO := Lib.hid hown
    have hk0 : (0 : Int) ≤ (k : Int) := by omega
    have hpl : ps.length ≤ 5000 := by
      have := congrArg List.length hps
      rw [List.length_map] at this
      have h2 := selU_len (batU after most) 0 (l.take k)
      rw [List.length_take] at h2
      omega
    have hur := HU.out.no hK
    have hsr := hK.size
    obtain ⟨oa, oc, rfl⟩ := hown.form
    clear hown hps hdat hK
    by_cases hlt : k < l.length
    · have hk1 : (k : Int) < (l.length : Int) := by omega
      have HSS := Lib.hid (takeU hlt)
      have hfy := HFI.out.at_ hlt
      obtain ⟨b, o, rfl, hFb, hb, u, e0, e1, e2, e3, e4, e5, e6, hdd⟩ := hur.at_ hlt
      obtain ⟨⟨y0, y1, y2, y3, y4, y5, y6⟩, hy⟩ : ∃ y, y = nthU l k := ⟨_, rfl⟩
      rw [← hy] at e0 e1 e2 e3 e4 e5 hdd HSS hfy
      simp only at e0 e1 e2 e3 e4 e5 hdd
      have q0 : 0 ≤ y0 := hfy.1
      have q1 : y0 ≤ 18446744073709551615 := hfy.2.1
      have HDD := Lib.hid hdd
      obtain ⟨va, vc, rfl, _⟩ := hdd
      have HFB := Lib.hid hFb
      have E0 := Lib.hid (cell_alloc e0 (.cells #[.int .u64 y0, .int .i64 y1, .int .u64 y2, .int .i64 y3, .int .u32 y4, .int .u64 y5, .slice va y6.length vc] 34))
      clear hur hy hFb hb hfy
      have hka := (Kept.refl NoB wr).alloc (.cells #[.int .u64 y0, .int .i64 y1, .int .u64 y2, .int .i64 y3, .int .u32 y4, .int .u64 y5, .slice va y6.length vc] 34)
      have HSN := Lib.hid (selU_snoc (batU after most) 0 (l.take k) ⟨y0, y1, y2, y3, y4, y5, y6⟩)
      by_cases hz : after < y0
      · have g1 : decide (after < y0) = true := decide_eq_true hz
        by_cases hq : (ps.length : Int) < most
        · have g2 : decide ((ps.length : Int) < most) = true := decide_eq_true hq
          have HST : Hid (batU after most (endU (batU after most) 0 (l.take k)) ⟨y0, y1, y2, y3, y4, y5, y6⟩ = (true, (ps.length : Int) + 1)) := Lib.hid (by rw [HEN.out]; unfold batU; rw [if_neg (by show ¬ (y0 ≤ after ∨ most ≤ _); omega)])
          clear hz hq
          have HO3 := Lib.hid (HO.out.no hka)
          have HD3 := Lib.hid (HD.out.kept hka (fun _ _ h => h))
          have HDD3 := Lib.hid (HDD.out.kept hka (fun _ _ h => h))
          have HK3 := Lib.hid (HKR.out.trans hka (fun _ _ h => h))
          have HB3 := Lib.hid (heap_alloc_new wr (.cells #[.int .u64 y0, .int .i64 y1, .int .u64 y2, .int .i64 y3, .int .u32 y4, .int .u64 y5, .slice va y6.length vc] 34))
          have HFO : Hid (∀ i, F i → ¬ some i = (Value.slice oa ps.length oc).ownBlock) := Lib.hid (fun i hi h => by have h1 := (HO3.out.base i h.symm).1; have h2 := HF.out i hi; omega)
          clear hka
          go_wp2_with (at_builtin; refine wpList_append_u1 27 34 i0 Tryz.underlying27 hi0 hz0 hz1 hz2 _ rfl _ _ rfl w.heap.size (.slice oa ps.length oc) ps rfl HO3.out wr.heap.size ⟨y0, y1, y2, y3, y4, y5, y6⟩ (.slice va y6.length vc) _ rfl HB3.out rfl (by omega) HK3.out.size (ps.length + 1) rfl ?_; intro a' c' w' hown' hgrow' hat')
          have hk4 : Kept NoB w w' := HK3.out.grown hgrow' (fun i hi => .inr (HO3.out.base i hi).1)
          have hk5 : Kept (fun i => some i = (Value.slice oa ps.length oc).ownBlock) (wr.alloc (.cells #[.int .u64 y0, .int .i64 y1, .int .u64 y2, .int .i64 y3, .int .u32 y4, .int .u64 y5, .slice va y6.length vc] 34)) w' := (Kept.refl _ _).grown hgrow' (fun i hi => .inl hi.symm)
          have hFo : ∀ i, F i → ¬ some i = (Value.slice oa ps.length oc).ownBlock := fun i hi h => by
            have h1 := (HO3.out.base i h.symm).1
            have h2 := HF.out i hi
            omega
          refine ⟨⟨k + 1, ps ++ [(⟨y0, y1, y2, y3, y4, y5, y6⟩, .slice va y6.length vc)], by omega, by go_num, hown', ?_, ?_, hk4⟩, by simp [RowKit.intOf]; omega⟩
          · rw [HSS.out, HSN.out, List.map_append, HPS.out, HST.out]
            rfl
          · intro p hm
            rcases List.mem_append.1 hm with hm | hm
            · exact (HD3.out p hm).kept hk5 hFo
            · obtain rfl : p = (⟨y0, y1, y2, y3, y4, y5, y6⟩, .slice va y6.length vc) := by simpa using hm
              exact HDD3.out.kept hk5 hFo
        · have g2 : decide ((ps.length : Int) < most) = false := decide_eq_false hq
          have HST : Hid (batU after most (endU (batU after most) 0 (l.take k)) ⟨y0, y1, y2, y3, y4, y5, y6⟩ = (false, (ps.length : Int))) := Lib.hid (by rw [HEN.out]; unfold batU; rw [if_pos (by show (y0 ≤ after ∨ most ≤ _); omega)])
          clear hz hq
          clear hka
          go_wp2
          exact ⟨⟨k + 1, ps, by omega, by go_num, HO.out, by rw [HSS.out, HSN.out, HST.out]; exact HPS.out.trans (List.append_nil _).symm, HD.out, HKR.out⟩, by simp [RowKit.intOf]; omega⟩
      · have g1 : decide (after < y0) = false := decide_eq_false hz
        have HST : Hid (batU after most (endU (batU after most) 0 (l.take k)) ⟨y0, y1, y2, y3, y4, y5, y6⟩ = (false, (ps.length : Int))) := Lib.hid (by rw [HEN.out]; unfold batU; rw [if_pos (by show (y0 ≤ after ∨ most ≤ _); omega)])
        clear hz
        clear hka
        go_wp2
        exact ⟨⟨k + 1, ps, by omega, by go_num, HO.out, by rw [HSS.out, HSN.out, HST.out]; exact HPS.out.trans (List.append_nil _).symm, HD.out, HKR.out⟩, by simp [RowKit.intOf]; omega⟩
    · obtain rfl : k = l.length := by omega
      clear hur
      go_wp2
      go_ret
      have hg := HPS.out
      rw [List.take_length] at hg
      have hpn : ps.length = (selU (batU after most) 0 l).length := by rw [← hg, List.length_map]
      refine ⟨.slice oa ps.length oc, rfl, ?_, HKR.out⟩
      rw [← hg]
      exact HO.out.us (fun k hk => .inr (HO.out.base k hk).1) (HD.out.mono (fun k _ h => .inl h))
end Go.Proofs.YtabjpmkkigflmaaGreatDoor
