/-
  Layer 28: the page's example; Put as one contract.
-/
import Derived.Test.YtbacnkndllifaaaInoL
import Derived.Laws.BytesArg
namespace Go.Proofs.Ytbacnkndllifaaa
open Go.RowKit
set_option linter.unusedVariables false

/-- What Put tells. -/
def putL (m s : Int) (l : List Xt) : List Int := if chk28 m s l = 0 then bytI m s l else []
theorem iPut_any (m s : Int) (u : Value) (l : List Xt) (F : Nat → Prop) (w : World) (h : XSl w F u l) (h0 : -9223372036854775808 ≤ s) (h1 : s ≤ 9223372036854775807) :
    Calls Try.prog 33 #[iv28 m s u] w (BErr (chk28 m s l) (putL m s l) w) := by
  by_cases he : chk28 m s l = 0
  · rw [show putL m s l = bytI m s l by unfold putL; rw [if_pos he], he]
    exact iPut_ok m s u l F w h he
  · rw [show putL m s l = [] by unfold putL; rw [if_neg he]]
    exact iPut_bad m s u l F w h h0 h1 he
theorem ex28 : ofE 1 100 [7, 8] = 0 ∧ exts [7, 8] = [(7, 2)] ∧ chk28 1 100 [(7, 2)] = 0 ∧ bytI 1 100 [(7, 2)] = [1, 1, 0, 0, 0, 100, 0, 7, 0, 2] := by
  refine ⟨by decide +kernel, by decide +kernel, by decide +kernel, by decide +kernel⟩
set_option maxRecDepth 100000 in
theorem awake28_any (w : World) : Calls Try.prog 30 #[] w fun e w' => e = .returned (.bool true) ∧ Kept NoB w w' := by
  obtain ⟨x1, x2, x3, x4⟩ := ex28
  have hk0 := (Kept.refl NoB w).alloc (.cells #[.int .i64 7, .int .i64 8] 3)
  have HK0 := Lib.hid hk0
  have HOF := Lib.hid (iOf_any 1 100 _ [7, 8] _ _ (nsl_two27 (heap_alloc_new w (.cells #[.int .i64 7, .int .i64 8] 3))) (by decide) (by omega) (by omega))
  rw [show ofR 1 100 [7, 8] = (1, 100, [(7, 2)]) by unfold ofR; rw [x1, x2]; rfl, x1] at HOF
  have HPU := Lib.hid (fun u W (h : XSl W (fun _ => True) u [(7, 2)]) => iPut_any 1 100 u [(7, 2)] _ W h (by omega) (by omega))
  rw [show putL 1 100 [(7, 2)] = [1, 1, 0, 0, 0, 100, 0, 7, 0, 2] by unfold putL; rw [x3, x4]; rfl, x3] at HPU
  clear x1 x2 x3 x4 hk0
  go_enter Try.func30, Try.ntmps30
  go_wp2_with fail
  refine HOF.out.mono ?_
  rintro e w2 ⟨a2, c2, rfl, hx, hk⟩
  have hk2 := (Kept.refl NoB w2).alloc (.cells #[.int .i64 1, .int .i64 100, .slice a2 1 c2] 47)
  have HX := Lib.hid (hx.any.no hk2)
  have HK2 := Lib.hid ((HK0.out.trans hk (fun _ _ h => h)).trans hk2 (fun _ _ h => h))
  clear hx hk hk2
  go_wp2_with fail
  refine (HPU.out _ _ HX.out).mono ?_
  rintro e w5 ⟨a5, cap, rfl, hv, hk5⟩
  have HK5 := Lib.hid (HK2.out.trans hk5 (fun _ _ h => h))
  obtain ⟨a', cap', he', _, _, _, hr⟩ := hv
  injection he' with he1 he2 he3
  subst he1 he3
  obtain ⟨b, o, rfl, _, _, hcell⟩ := hr.2 (by decide)
  have hconv := run_convert_bytes_arg (P := Try.prog) w5 22 5 Try.underlying22 Try.underlying5 b o 10 cap [1, 1, 0, 0, 0, 100, 0, 7, 0, 2] rfl hcell 9 Try.underlying9
  have hstr : ((strOfNums [1, 1, 0, 0, 0, 100, 0, 7, 0, 2]).toList == [1, 1, 0, 0, 0, 100, 0, 7, 0, 2]) = true := by decide +kernel
  clear hr hcell hk5 he2
  go_wp2
  go_ret
  exact ⟨rfl, HK5.out⟩
end Go.Proofs.Ytbacnkndllifaaa
