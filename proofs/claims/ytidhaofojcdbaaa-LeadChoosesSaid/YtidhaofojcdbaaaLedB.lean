/-
  Package lead: New, Start, isMaster, within of no votes.
-/
import Derived.Test.YtidhaofojcdbaaaLedA
namespace Go.Proofs.Ytidhaofojcdbaaa
open Go.RowKit
set_option linter.unusedVariables false

set_option maxRecDepth 100000 in
theorem DNew_any (w : World) (me ms : Int) (h1 : 1 ≤ ms) (h2 : ms ≤ 5) (h3 : 1 ≤ me) (h4 : me ≤ ms) :
    Calls Try.prog 11 #[.int .i64 me, .int .i64 ms] w fun e w' => ∃ g bp bq, e = .returned (.tuple #[.pointer (some ⟨g, 0, none⟩), .int .i64 0]) ∧ LdAt w' g bp bq me ms 0 0 0 0 [] [] ∧ w.heap.size ≤ g ∧ w.heap.size ≤ bp ∧ w.heap.size ≤ bq ∧ Kept NoB w w' := by
  have hr := heap_alloc_new w (.cells #[.int .i64 me, .int .i64 ms, .int .i64 0, .int .u64 0, .int .i64 0, .int .i64 0, .map none, .map none] 102)
  have hk := (Kept.refl NoB w).alloc (.cells #[.int .i64 me, .int .i64 ms, .int .i64 0, .int .u64 0, .int .i64 0, .int .i64 0, .map none, .map none] 102)
  have hz : (w.alloc (.cells #[.int .i64 me, .int .i64 ms, .int .i64 0, .int .u64 0, .int .i64 0, .int .i64 0, .map none, .map none] 102)).heap.size = w.heap.size + 1 := by simp
  have HB := Lib.hid (become_raw _ w.heap.size me ms 0 0 0 0 0 _ _ hr)
  have HK := Lib.hid hk
  rw [hz] at HB
  clear hr hk hz
  have d1 : decide (ms < 1) = false := decide_eq_false (by omega)
  have d2 : decide (5 < ms) = false := decide_eq_false (by omega)
  have d3 : decide (me < 1) = false := decide_eq_false (by omega)
  have d4 : decide (ms < me) = false := decide_eq_false (by omega)
  go_enter Try.func11, Try.ntmps11
  go_wp2_with fail
  refine HB.out.mono ?_
  rintro e w1 ⟨rfl, hl, hk⟩
  have HL := Lib.hid hl
  have HK1 := Lib.hid (HK.out.trans hk (fun i hi e => by have e : i = w.heap.size := e; omega))
  clear hl hk
  go_wp2
  go_ret2
  exact ⟨_, _, _, rfl, HL.out, Nat.le_refl _, by omega, by omega, HK1.out⟩
theorem DMaster_any (w : World) (g bp bq : Nat) (me ms st bal fr nx who : Int) (P Q : List Vt) (h : LdAt w g bp bq me ms st bal fr nx P Q) (h1 : 1 ≤ who) (h2 : who ≤ ms) : Calls Try.prog 56 #[.pointer (some ⟨g, 0, none⟩), .int .i64 who] w fun e w' => e = .returned (.bool true) ∧ w = w' := by
  obtain ⟨c0, c1, c2, c3, c4, c5, c6, c7⟩ := h.c
  clear h
  go_enter Try.func56, Try.ntmps56
  go_wp2
  go_ret
  exact ⟨rfl, rfl⟩
set_option maxRecDepth 100000 in
theorem DStart_ok (w : World) (g bp bq : Nat) (me ms st fr nx : Int) (P Q : List Vt) (h : LdAt w g bp bq me ms st 0 fr nx P Q) (h1 : 1 ≤ me) (h2 : me ≤ 5) :
    Calls Try.prog 14 #[.pointer (some ⟨g, 0, none⟩), .int .u64 0, .int .i64 0] w fun e w' => ∃ bp' bq', e = .returned (.tuple #[.int .u64 (8 + me), .int .i64 0]) ∧ LdAt w' g bp' bq' me ms 1 (8 + me) 0 0 [] [] ∧ w.heap.size ≤ bp' ∧ w.heap.size ≤ bq' ∧ Kept (fun k => k = g) w w' := by
  have HBN : Hid (∀ w', Calls Try.prog 51 #[.int .u64 0, .int .i64 me] w' fun e w'' => e = .returned (.tuple #[.int .u64 (8 + me), .int .i64 0]) ∧ w' = w'') := Lib.hid (fun w' => by
    have hn : nextR 0 me = 1 := by unfold nextR; rw [if_neg (by omega)]; rfl
    have := bNext_yes 0 me w' (by omega) (by omega) (by rw [hn]; exact ⟨by omega, by unfold lastR; omega, h1, h2⟩)
    rw [hn] at this
    simpa using this)
  obtain ⟨c0, c1, c2, c3, c4, c5, c6, c7⟩ := h.c
  have H := Lib.hid h
  have HG : Hid (g < w.heap.size) := Lib.hid h.lt.1
  clear h
  go_enter Try.func14, Try.ntmps14
  go_upto_region 5 with fail
  have HKQ : Hid (Kept NoB w w.drew) := Lib.hid (Kept.refl NoB w).drew
  go_region_held3 (fun w' => w'.cell? ⟨g, 3, none⟩ = some (.int .u64 0) ∧ w'.cell? ⟨g, 0, none⟩ = some (.int .i64 me))
    (first
      | (with_reducible exact ⟨cell_drew c3, cell_drew c0⟩)
      | go_keep)
    ((go_at_call 51; (with_reducible refine (HBN.out _).mono ?_); rintro e w1 ⟨rfl, rfl⟩))
  all_goals
    have H1 := Lib.hid (H.out.no HKQ.out)
    have HB := Lib.hid (become_raw _ g me ms st 0 fr nx 1 _ _ H1.out.cells)
    clear c0 c1 c2 c3 c4 c5 c6 c7
    go_wp2_with fail
    refine HB.out.mono ?_
    rintro e w2 ⟨rfl, hl, hk⟩
    have HL := Lib.hid hl
    have HK := Lib.hid ((HKQ.out.mono (T := fun k => k = g) (fun _ _ h => h.elim)).trans hk (fun _ _ h => h))
    have f3 := hl.f 3
    have f4 := hl.f 4
    have f5 := hl.f 5
    obtain ⟨c0, c1, c2, c3, c4, c5, c6, c7⟩ := hl.c
    clear hk
    have hfin := blkA_set (blkA_set (blkA_set hl.cells 3 (.int .u64 (8 + me))) 4 (.int .i64 0)) 5 (.int .i64 0)
    have hks := (((Kept.refl (fun k => k = g) w2).setCell (p := ⟨g, 3, none⟩) (.inl rfl) (.int .u64 (8 + me))).setCell (p := ⟨g, 4, none⟩) (.inl rfl) (.int .i64 0)).setCell (p := ⟨g, 5, none⟩) (.inl rfl) (.int .i64 0)
    have hkf := HK.out.trans hks (fun _ _ h => h)
    have HFIN := Lib.hid hfin
    have HKS := Lib.hid hks
    have HKF := Lib.hid hkf
    clear hl hfin hks hkf
    go_wp2
    go_ret2
    have hlt := HL.out.lt
    exact ⟨_, _, rfl, ⟨HFIN.out, HL.out.mp.kept HKS.out (fun e => hlt.2.2.2.1 e), HL.out.mq.kept HKS.out (fun e => hlt.2.2.2.2.1 e), HL.out.ne⟩, HKQ.out.size, Nat.le_succ_of_le HKQ.out.size, HKF.out⟩
end Go.Proofs.Ytidhaofojcdbaaa
