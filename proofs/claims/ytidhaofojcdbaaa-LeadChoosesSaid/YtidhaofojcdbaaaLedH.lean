/-
  Package lead: Promise with no votes.
-/
import Derived.Test.YtidhaofojcdbaaaLedG
namespace Go.Proofs.Ytidhaofojcdbaaa
open Go.RowKit
set_option linter.unusedVariables false

/-- Those that promised, as a set: in whatever order they are told. -/
def SetIs (P : List Vt) (n : Int) (en : Bool) : Prop := ∀ ss : List Int, ss.Perm (P.map fun v => v.s) → enough (clr (ors 0 ss)) n = en
theorem zero_vts (w : World) : (zeroValue 28).run Try.prog w = .ok (.slice none 0 0) w := by kernel_rfl
def wv (who : Int) : Vt := ⟨who, 0, 0, 0, 0, 0⟩
def PromE (g bp bq : Nat) (me n bal fr nx : Int) (P Q : List Vt) (en : Bool) (w : World) (e : Ending) (w' : World) : Prop :=
  e = .returned (.tuple #[.slice none 0 0, .bool en]) ∧ (∃ bp' bq', LdAt w' g bp' bq' me n (if en then 2 else 1) bal fr nx (if en then [] else P) (if en then [] else Q) ∧ (bp' = bp ∨ w.heap.size ≤ bp') ∧ (bq' = bq ∨ w.heap.size ≤ bq')) ∧ Kept (LdB g bp bq) w w'
set_option maxRecDepth 100000 in
set_option maxHeartbeats 4000000 in
theorem Promise_none (w : World) (g bp bq n : Nat) (me bal fr nx who : Int) (P Q : List Vt) (h : LdAt w g bp bq me n 1 bal fr nx P Q) (hn : n ≤ 5) (hP : WhoOk n P) (hw1 : 1 ≤ who) (hw2 : who ≤ (n : Int)) (hno : atV P who = none) (hl : P.length ≤ 5) (en : Bool) (hen : SetIs (putV P (wv who)) n en) :
    Calls Try.prog 19 #[.pointer (some ⟨g, 0, none⟩), .int .u64 bal, .int .i64 who, .slice none 0 0] w (PromE g bp bq me n bal fr nx (putV P (wv who)) Q en w) := by
  have hlt := h.lt
  have HLT : Hid (g < w.heap.size ∧ bp < w.heap.size ∧ bq < w.heap.size ∧ bp ≠ g ∧ bq ≠ g ∧ bp ≠ bq) := Lib.hid hlt
  have H := Lib.hid h
  have HM := Lib.hid h.mp
  have hwf : (Lit.int .i64 who).wf = true := WalkArith.wf_i64 (by omega)
  have HWF := Lib.hid hwf
  have HIM := Lib.hid (DMaster_any w g bp bq me n 1 bal fr nx who P Q h hw1 hw2)
  have HNO := Lib.hid hno
  have HPO := Lib.hid hP
  have HEN := Lib.hid hen
  obtain ⟨c0, c1, c2, c3, c4, c5, c6, c7⟩ := h.c
  have hbal : (bal != bal) = false := by simp
  clear h hlt hwf hno hP hen
  go_enter Try.func19, Try.ntmps19
  go_wp2_with fail
  refine HIM.out.mono ?_
  rintro e w1 ⟨rfl, rfl⟩
  go_wp2_with (at_lookup; refine wpList_look_mv _ rfl _ _ 99 rfl 3 28 Try.underlying3 Try.underlying99 (.slice none 0 0) (zero_vts _) bp nlv P who rfl HM.out rfl HWF.out ?_; rw [HNO.out]; simp only [Option.map_none, Option.getD_none, Option.isSome_none])
  go_upto_region 5 with fail
  have HWI := Lib.hid (fun w' => within_nil w' g)
  have HRUN : Hid (∀ w2, Kept NoB w w2 → ∃ w3, (Instr.mapUpdate 99 (.map (some bp)) (.int .i64 who) (.slice none 0 0)).run Try.prog w2 = .ok () w3 ∧ MapV Try.prog 3 nlv w3 bp (putV P (wv who)) ∧ Kept (fun k => k = bp) w2 w3) := Lib.hid (fun w2 hk => by
    obtain ⟨w3, hrun, hm3, hg3⟩ := run_store_mv (P := Try.prog) w2 99 3 28 Try.underlying3 Try.underlying99 bp nlv P (wv who) (HM.out.kept hk (fun h => h)) HWF.out (by omega)
    exact ⟨w3, hrun, hm3, (Kept.refl (fun k => k = bp) w2).grown hg3 (fun k hk => .inl (by injection hk with hk; exact hk.symm))⟩)
  go_region_law ((go_simp; go_at_call 57; refine (HWI.out _).mono ?_; rintro e w2 ⟨rfl, hk2⟩; have HK2 : Hid (Kept NoB w w2) := Lib.hid ((by first | exact Kept.refl NoB w | exact (Kept.refl NoB w).drew : Kept NoB w _).trans hk2 (fun _ _ h => h)); obtain ⟨w3, hrun, hm3, hk3⟩ := HRUN.out w2 HK2.out; have HM3 := Lib.hid hm3; have HK3 := Lib.hid hk3; have k6 := HK2.out.cell (p := ⟨g, 6, none⟩) (fun h => h) c6; clear hk2 hm3 hk3))
  all_goals
    have HKW : Hid (Kept (fun k => k = bp) w w3) := Lib.hid ((HK2.out.mono (T := fun k => k = bp) (fun _ _ h => h.elim)).trans HK3.out (fun _ _ h => h))
    have HP2 : Hid (WhoOk n (putV P (wv who))) := Lib.hid (fun v hv => by
      rcases putV_mem hv with rfl | hv
      · exact ⟨hw1, hw2⟩
      · exact HPO.out v hv)
    have HL3 : Hid (LdAt w3 g bp bq me n 1 bal fr nx (putV P (wv who)) Q) := Lib.hid ⟨HKW.out.heap (fun e => HLT.out.2.2.2.1 e.symm) H.out.cells, HM3.out, H.out.mq.kept HKW.out (fun e => HLT.out.2.2.2.2.2 e.symm), H.out.ne⟩
    have hpl := (putV_len (L := P) (wv who)).1
    obtain ⟨P2, hP2⟩ : ∃ x, x = putV P (wv who) := ⟨_, rfl⟩
    rw [← hP2] at HP2 HL3 HEN hpl ⊢
    have HPQ := Lib.hid hP2
    clear hP2 c0 c1 c2 c3 c4 c5 c6 c7 k6 hrun HM3 HRUN
    obtain ⟨c0, c1, c2, c3, c4, c5, c6, c7⟩ := HL3.out.c
    have HKB := Lib.hid ((Kept.refl NoB w3).alloc (.cells #[.map (some bp)] 99))
    have HCO := Lib.hid (collP (w3.alloc (.cells #[.map (some bp)] 99)) w3.heap.size bp P2 (by rw [cell_of_row _ _ 0 _ _ _ (heap_alloc_new w3 (.cells #[.map (some bp)] 99))]; rfl) (HL3.out.mp.kept HKB.out (fun h => h)) (by omega))
    go_wp2_with fail
    refine (keysP_in _ _).mono ?_
    rintro e w4 ⟨rfl, rfl⟩
    go_wp2_with fail
    refine HCO.out.mono ?_
    rintro e w5 ⟨v, ss, rfl, hperm, hrd, _, hk5⟩
    have HK5 := Lib.hid (HKB.out.trans hk5 (fun _ _ h => h))
    have HRD := Lib.hid hrd
    have HENS := Lib.hid (HEN.out ss hperm)
    have hsl : ss.length ≤ 1000 := by have := hperm.length_eq; rw [List.length_map] at this; omega
    clear hperm hrd hk5
    go_wp2_with fail
    refine (bWith_any 0 v ss w5 (by omega) HRD.out hsl).mono ?_
    rintro e w6 ⟨rfl, rfl⟩
    have HL5 := Lib.hid (HL3.out.no HK5.out)
    have HBE := Lib.hid (bEnough_any (clr (ors 0 ss)) (n : Int) w5 (by have := ors_lt ss 0 (by omega); unfold clr; omega) (by omega))
    rw [HENS.out] at HBE
    obtain ⟨st, hst⟩ : ∃ x, x = clr (ors 0 ss) := ⟨_, rfl⟩
    rw [← hst] at HBE ⊢
    clear hst c0 c1 c2 c3 c4 c5 c6 c7
    obtain ⟨c0, c1, c2, c3, c4, c5, c6, c7⟩ := HL5.out.c
    go_wp2_with fail
    refine HBE.out.mono ?_
    rintro e w7 ⟨rfl, hk7⟩
    have HL7 := Lib.hid (HL5.out.no hk7)
    have HK7 := Lib.hid ((HKW.out.trans HK5.out (fun _ _ h => h.elim)).trans hk7 (fun _ _ h => h.elim))
    clear hk7 c0 c1 c2 c3 c4 c5 c6 c7
    cases en with
    | false =>
      have HFIN : Hid (PromE g bp bq me n bal fr nx P2 Q false w (.returned (.tuple #[.slice none 0 0, .bool false])) w7) := Lib.hid ⟨rfl, ⟨bp, bq, HL7.out, .inl rfl, .inl rfl⟩, HK7.out.mono (fun k _ e => .inr (.inl e))⟩
      go_wp2
      go_ret2
      have hpq := HPQ.out
      subst hpq
      exact HFIN.out
    | true =>
      go_wp2_with fail
      refine (lead_none w7 g bp bq n me bal fr nx P2 Q HL7.out hn HP2.out).mono ?_
      rintro e w8 ⟨bp', bq', rfl, hl8, hb8, hq8, hk8⟩
      have HL8 := Lib.hid hl8
      have HBQ : Hid (w.heap.size ≤ bp' ∧ w.heap.size ≤ bq') := Lib.hid (by have := HK7.out.size; omega)
      have HK8 : Hid (Kept (LdB g bp bq) w w8) := Lib.hid ((HK7.out.mono (T := LdB g bp bq) (fun k _ e => .inr (.inl e))).trans hk8 (fun k _ e => .inl e))
      clear hl8 hb8 hq8 hk8
      go_wp2_with fail
      refine (Open_none w8 g bp' bq' me n 2 bal fr nx [] HL8.out).mono ?_
      rintro e w9 ⟨rfl, hk9⟩
      have HFIN : Hid (PromE g bp bq me n bal fr nx P2 Q true w (.returned (.tuple #[.slice none 0 0, .bool true])) w9) := Lib.hid ⟨rfl, ⟨bp', bq', HL8.out.no hk9, .inr HBQ.out.1, .inr HBQ.out.2⟩, HK8.out.trans hk9 (fun _ _ h => h.elim)⟩
      clear hk9
      go_wp2
      go_ret2
      have hpq := HPQ.out
      subst hpq
      exact HFIN.out
end Go.Proofs.Ytidhaofojcdbaaa
