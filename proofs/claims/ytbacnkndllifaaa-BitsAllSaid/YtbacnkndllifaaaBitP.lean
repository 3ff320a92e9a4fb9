/-
  Layer 27: BitsTakes, BitsAll.
-/
import Derived.Test.YtbacnkndllifaaaBitM
namespace Go.Proofs.Ytbacnkndllifaaa
open Go.RowKit
set_option linter.unusedVariables false

set_option maxRecDepth 100000 in
theorem BitsTakes_any (v u : Value) (l : List Int) (n k : Int) (L : List Int) (W : World) (h : BSl W (fun k => k < W.heap.size) v l) (hL : NSl W (fun k => k < W.heap.size) u L) (hbd : ∀ x ∈ L, x ≤ 9223372036854775807) :
    Calls Try.prog 4 #[v, .agg #[.int .i64 n, .int .i64 k], u] W fun e W' => e = .returned (.bool true) ∧ Kept NoB W W' := by
  obtain ⟨a, cap, rfl, _, hcm, _⟩ := id h
  obtain ⟨au, cu, rfl, _, hum, _⟩ := id hL
  have HAW := Lib.hid awake27_any
  have HBX := Lib.hid ((Kept.refl NoB W).alloc (.cells #[.int .i64 n, .int .i64 k] 36))
  have hz := heap_alloc_new W (.cells #[.int .i64 n, .int .i64 k] 36)
  have c0 : (W.alloc (.cells #[.int .i64 n, .int .i64 k] 36)).cell? ⟨W.heap.size, 0, none⟩ = some (.int .i64 n) := cell_of_row _ _ 0 _ _ _ hz
  have c1 : (W.alloc (.cells #[.int .i64 n, .int .i64 k] 36)).cell? ⟨W.heap.size, 1, none⟩ = some (.int .i64 k) := cell_of_row _ _ 1 _ _ _ hz
  clear hz
  by_cases hl : 600 < l.length ∨ 60 < L.length
  · have key : Calls Try.prog 4 #[.slice a l.length cap, .agg #[.int .i64 n, .int .i64 k], .slice au L.length cu] W fun e W' => e = .returned (.bool true) ∧ Kept NoB W W' := by
      by_cases h6 : 600 < l.length
      · have hl' : decide ((600 : Int) < (l.length : Int)) = true := decide_eq_true (by omega)
        have hl2 : decide (600 < l.length) = true := decide_eq_true (by omega)
        clear h hL hl h6
        go_enter Try.func4, Try.ntmps4
        go_wp2_with fail
        go_quiet (fail)
        go_wp2_with (go_at_call 12; refine (HAW.out _).mono ?_; rintro e w' ⟨rfl, hk⟩; have HK := Lib.hid ((HBX.out.drewN _).trans hk (fun _ _ h => h)); clear hk)
        go_ret
        exact ⟨rfl, HK.out⟩
      · have hl' : decide ((600 : Int) < (l.length : Int)) = false := decide_eq_false (by omega)
        have hl2 : decide (600 < l.length) = false := decide_eq_false (by omega)
        have hl3 : decide ((60 : Int) < (L.length : Int)) = true := decide_eq_true (by omega)
        have hl4 : decide (60 < L.length) = true := decide_eq_true (by omega)
        clear h hL hl h6
        go_enter Try.func4, Try.ntmps4
        go_wp2_with fail
        go_quiet (fail)
        go_wp2_with (go_at_call 12; refine (HAW.out _).mono ?_; rintro e w' ⟨rfl, hk⟩; have HK := Lib.hid ((HBX.out.drewN _).trans hk (fun _ _ h => h)); clear hk)
        go_ret
        exact ⟨rfl, HK.out⟩
    exact key
  · have hl' : decide ((600 : Int) < (l.length : Int)) = false := decide_eq_false (by omega)
    have hl2 : decide (600 < l.length) = false := decide_eq_false (by omega)
    have hl3 : decide ((60 : Int) < (L.length : Int)) = false := decide_eq_false (by omega)
    have hl4 : decide (60 < L.length) = false := decide_eq_false (by omega)
    have hb : ∀ W', Kept NoB W W' → BSl W' (fun k => k < W.heap.size) (.slice a l.length cap) l := fun W' hk => h.kept hk (fun _ _ h => h)
    have hL2 : ∀ W', Kept NoB W W' → NSl W' (fun k => k < W.heap.size) (.slice au L.length cu) L := fun W' hk => hL.kept hk (fun _ _ _ h => h)
    have HT1 := Lib.hid (fun W' hk => bTake27_any _ l _ n k W' (hb W' hk))
    have HT2 := Lib.hid (fun W' hk => rTake27_any _ l _ n k W' (hb W' hk))
    have HG1 := Lib.hid (fun W' hk => bGive27_any _ _ l L _ _ n W' (hb W' hk) (hL2 W' hk) (by omega) hbd)
    have HG2 := Lib.hid (fun W' hk => rGive27_any _ _ l L _ _ n W' (hb W' hk) (hL2 W' hk) (by omega) hbd)
    have HK := HBX
    obtain ⟨er, her⟩ : ∃ er, er = tkE l n k := ⟨_, rfl⟩
    obtain ⟨T, hT⟩ : ∃ T, T = tkT l n k := ⟨_, rfl⟩
    obtain ⟨gr, hgr⟩ : ∃ gr, gr = gv27 l n L := ⟨_, rfl⟩
    rw [← her, ← hT] at HT1 HT2
    rw [← hgr] at HG1 HG2
    clear h hL hb hL2 hl her hT hgr
    go_enter Try.func4, Try.ntmps4
    go_wp2_with fail
    go_quiet (fail)
    go_wp2_with (first
      | (go_at_call 26; refine (HT1.out _ (HK.out.drewN _)).mono ?_; rintro e w1 ⟨a1, d1, b1, e1, M1, rfl, hM1, hb, hn, hk⟩; replace HK := Lib.hid ((HK.out.drewN _).trans hk (fun _ _ h => h)); have HM1 := Lib.hid hM1; have HX := Lib.hid hb; have HN := Lib.hid hn; clear hb hk hn hM1)
      | (go_at_call 27; refine (HT2.out _ HK.out).mono ?_; rintro e w2 ⟨a2, d2, b2, e2, M2, rfl, hM2, hb, hn, hk⟩; replace HK := Lib.hid (HK.out.trans hk (fun _ _ h => h)); obtain rfl := TkM.uniq HM1.out hM2; replace HX := Lib.hid (HX.out.kept hk (fun _ _ h => h)); replace HN := Lib.hid (HN.out.kept hk (fun _ _ _ h => h)); have HY := Lib.hid hb; have HN2 := Lib.hid hn; clear hb hk hn hM2)
      | (go_at_call 28; refine (HG1.out _ HK.out).mono ?_; rintro e w3 ⟨a3, d3, M3, rfl, hM3, hb, hk⟩; replace HK := Lib.hid (HK.out.trans hk (fun _ _ h => h)); have HM3 := Lib.hid hM3; replace HX := Lib.hid (HX.out.kept hk (fun _ _ h => h)); replace HN := Lib.hid (HN.out.kept hk (fun _ _ _ h => h)); replace HY := Lib.hid (HY.out.kept hk (fun _ _ h => h)); replace HN2 := Lib.hid (HN2.out.kept hk (fun _ _ _ h => h)); have HU := Lib.hid hb; clear hb hk hM3)
      | (go_at_call 29; refine (HG2.out _ HK.out).mono ?_; rintro e w4 ⟨a4, d4, M4, rfl, hM4, hb, hk⟩; replace HK := Lib.hid (HK.out.trans hk (fun _ _ h => h)); obtain rfl := GvM.uniq HM3.out hM4; replace HX := Lib.hid (HX.out.kept hk (fun _ _ h => h)); replace HN := Lib.hid (HN.out.kept hk (fun _ _ _ h => h)); replace HY := Lib.hid (HY.out.kept hk (fun _ _ h => h)); replace HN2 := Lib.hid (HN2.out.kept hk (fun _ _ _ h => h)); replace HU := Lib.hid (HU.out.kept hk (fun _ _ h => h)); have HV := Lib.hid hb; clear hb hk hM4)
      | (go_at_call 22; (with_reducible refine (Same_any _ _ M1 M1 _ _ _ HX.out HY.out).mono ?_); rw [decide_eq_true rfl]; rintro e w5 ⟨rfl, hk⟩; replace HK := Lib.hid (HK.out.trans hk (fun _ _ h => h)); replace HN := Lib.hid (HN.out.kept hk (fun _ _ _ h => h)); replace HN2 := Lib.hid (HN2.out.kept hk (fun _ _ _ h => h)); replace HU := Lib.hid (HU.out.kept hk (fun _ _ h => h)); replace HV := Lib.hid (HV.out.kept hk (fun _ _ h => h)); clear hk)
      | (go_at_call 24; refine (SameN_any _ _ T T _ _ _ HN.out HN2.out).mono ?_; rw [decide_eq_true rfl]; rintro e w9 ⟨rfl, hk⟩; replace HK := Lib.hid (HK.out.trans hk (fun _ _ h => h)); replace HU := Lib.hid (HU.out.kept hk (fun _ _ h => h)); replace HV := Lib.hid (HV.out.kept hk (fun _ _ h => h)); clear hk)
      | (go_at_call 22; (with_reducible refine (Same_any _ _ M3 M3 _ _ _ HU.out HV.out).mono ?_); rw [decide_eq_true rfl]; rintro e w6 ⟨rfl, hk⟩; replace HK := Lib.hid (HK.out.trans hk (fun _ _ h => h)); clear hk)
      | (go_at_call 12; refine (HAW.out _).mono ?_; rintro e w' ⟨rfl, hk⟩; replace HK := Lib.hid (HK.out.trans hk (fun _ _ h => h)); clear hk))
    go_ret
    exact ⟨rfl, HK.out⟩

/-- Numbers that are had, each once: all can be given back. -/
theorem gvE_all {f : Nat → Bool} {n : Nat} {L D : List Int} (h : ∀ x ∈ L, (0 ≤ x ∧ x < (n : Int)) ∧ f x.toNat = true ∧ ¬ x ∈ D) (hd : L.Nodup) : gvE f n D L = 0 := by
  induction L generalizing D with
  | nil => rfl
  | cons x r ih =>
    obtain ⟨h1, h2, h3⟩ := h x (by simp)
    rw [gvE, if_neg (by omega), h2, decide_eq_false h3]
    simp only [Bool.not_false, Bool.and_self, if_true]
    refine ih (fun y hy => ?_) (List.nodup_cons.1 hd).2
    obtain ⟨g1, g2, g3⟩ := h y (by simp [hy])
    refine ⟨g1, g2, fun hm => ?_⟩
    rcases List.mem_append.1 hm with hm | hm
    · exact g3 hm
    · rw [List.mem_singleton.1 hm] at hy
      exact (List.nodup_cons.1 hd).1 hy
theorem hadL_nodup (f : Nat → Bool) (n : Nat) : (hadL f n).Nodup := by
  induction n with
  | zero => exact List.nodup_nil
  | succ n ih =>
    cases h : f n
    · rw [hadL_no h]; exact ih
    · rw [hadL_yes h]
      refine List.nodup_append.2 ⟨ih, by simp, fun a ha b hb => ?_⟩
      obtain ⟨i, rfl, h2, _⟩ := hadL_mem.1 ha
      rw [List.mem_singleton.1 hb]
      omega
theorem hadL_all (n : Nat) : (hadL (fun _ => true) n).length = n := by
  unfold hadL; rw [List.length_map, List.filter_eq_self.2 (fun _ _ => rfl), List.length_range]
theorem BM.had {f : Nat → Bool} {n : Nat} {M : List Int} (h : BM f n M) (hn : n ≤ 4096) : had27 M (n : Int) = hadL f n := by
  rw [had27_yes (h.fits hn)]
  exact hadL_congr fun i hi => by rw [h.bit]; simp [hi]
end Go.Proofs.Ytbacnkndllifaaa
