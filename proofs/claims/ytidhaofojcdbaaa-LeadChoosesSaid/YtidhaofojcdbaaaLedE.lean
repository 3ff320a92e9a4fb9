/-
  Package lead: within of no votes; Open of no proposals; what is proposed.
-/
import Derived.Test.YtidhaofojcdbaaaLedC
namespace Go.Proofs.Ytidhaofojcdbaaa
open Go.RowKit
set_option linter.unusedVariables false

set_option maxRecDepth 100000 in
theorem cloneV_nil (w : World) : Calls Try.prog 94 #[.slice none 0 0] w fun e w' => e = .returned (.slice none 0 0) ∧ w = w' := by
  have hn := fun (w : World) => Lib.run_eql_slice_nil (P := Try.prog) w 28 48 none 0 0 0 0 Try.underlying28
  go_enter Try.func94, Try.ntmps94
  go_wp2
  go_ret
  exact ⟨rfl, rfl⟩
set_option maxRecDepth 100000 in
theorem indexV_nil (w : World) (fv : Value) : Calls Try.prog 119 #[.slice none 0 0, fv] w fun e w' => e = .returned (.int .i64 (-1)) ∧ w = w' := by
  go_enter Try.func119, Try.ntmps119
  go_wp2
  go_loopw [5, 8] (fun _ iv wr => iv = .int .i64 0 ∧ wr = w) (fun _ _ _ => 0)
  case atStart => exact ⟨rfl, rfl⟩
  case round =>
    obtain ⟨rfl, rfl⟩ := hrel
    go_wp2
    go_ret
    exact ⟨rfl, rfl⟩
set_option maxRecDepth 100000 in
theorem deleteV_nil (w : World) (fv : Value) : Calls Try.prog 93 #[.slice none 0 0, fv] w fun e w' => e = .returned (.slice none 0 0) ∧ w = w' := by
  have HI := Lib.hid (fun w => indexV_nil w fv)
  go_enter Try.func93, Try.ntmps93
  go_wp2_with fail
  refine (HI.out _).mono ?_
  rintro e w1 ⟨rfl, rfl⟩
  go_wp2
  go_ret
  exact ⟨rfl, rfl⟩
set_option maxRecDepth 100000 in
theorem within_nil (w : World) (g : Nat) : Calls Try.prog 57 #[.pointer (some ⟨g, 0, none⟩), .slice none 0 0] w fun e w' => e = .returned (.slice none 0 0) ∧ Kept NoB w w' := by
  have HK := Lib.hid ((Kept.refl NoB w).alloc (.cells #[.pointer (some ⟨g, 0, none⟩)] 31))
  go_enter Try.func57, Try.ntmps57
  go_wp2_with fail
  refine (cloneV_nil _).mono ?_
  rintro e w1 ⟨rfl, rfl⟩
  go_wp2_with fail
  refine (deleteV_nil _ _).mono ?_
  rintro e w2 ⟨rfl, rfl⟩
  go_wp2
  go_ret
  exact ⟨rfl, HK.out⟩
set_option maxRecDepth 100000 in
theorem Open_none (w : World) (g bp bq : Nat) (me ms st bal fr nx : Int) (P : List Vt) (h : LdAt w g bp bq me ms st bal fr nx P []) : Calls Try.prog 22 #[.pointer (some ⟨g, 0, none⟩)] w fun e w' => e = .returned (.slice none 0 0) ∧ Kept NoB w w' := by
  obtain ⟨c0, c1, c2, c3, c4, c5, c6, c7⟩ := h.c
  have HM := Lib.hid h.mq
  have HK := Lib.hid ((Kept.refl NoB w).alloc (.cells #[.map (some bq)] 100))
  have HS := Lib.hid (sortQ (w.alloc (.cells #[.map (some bq)] 100)) w.heap.size bq [] (by rw [cell_of_row _ _ 0 _ _ _ (heap_alloc_new w (.cells #[.map (some bq)] 100))]; rfl) (HM.out.kept HK.out (fun h => h)) (by simp))
  clear h
  go_enter Try.func22, Try.ntmps22
  go_wp2_with fail
  refine (keysQ_in _ _).mono ?_
  rintro e w1 ⟨rfl, rfl⟩
  go_wp2_with fail
  refine HS.out.mono ?_
  rintro e w2 ⟨v, ss, rfl, hp, hrow, hnil, hk⟩
  obtain rfl : ss = [] := List.perm_nil.1 hp
  obtain rfl := hnil.2 rfl
  have HK2 := Lib.hid (HK.out.trans hk (fun _ _ h => h))
  clear hp hrow hnil hk c0 c1 c2 c3 c4 c5 c6 c7
  go_wp2_with fail
  go_loopw [3, 5, 15] (fun a _ i wr => a = .slice none 0 0 ∧ i = .int .i64 0 ∧ wr = w2) (fun _ _ _ _ => 0)
  case atStart => exact ⟨rfl, rfl, rfl⟩
  case round =>
    obtain ⟨rfl, rfl, rfl⟩ := hrel
    go_wp2
    go_ret
    exact ⟨rfl, HK2.out⟩
end Go.Proofs.Ytidhaofojcdbaaa
