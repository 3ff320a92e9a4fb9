/-
  Package vers: Same; the chapter's Same; ours, like of the statements.
-/
import Derived.Test.YtnmclhgljpcjcaaVerJ
import Derived.Laws.BytesArg
import Derived.Lib.Bytes
namespace Go.Proofs.Ytnmclhgljpcjcaa
open Go.RowKit
set_option linter.unusedVariables false

theorem BSl.conv15 {P : Program} {w : World} {F : Nat → Prop} {v : Value} {l : List Int} (h : BSl w F v l) (src e dst : TypeId) (hs : P.underlying src = some (.slice e)) (he : P.underlying e = some (.int .u8)) (hd : P.underlying dst = some .string) :
    (convert src dst v).run P w = .ok (.string (strOfNums l)) w := by
  obtain ⟨a, cap, rfl, hc, hm, hn, hr⟩ := h
  by_cases hl : l.length = 0
  · obtain rfl : l = [] := List.eq_nil_of_length_eq_zero hl
    show (convert src dst (.slice a 0 cap)).run P w = .ok (.string ByteArray.empty) w
    rw [run_convert_bytes_string w src dst e _ 0 cap hs he hd]
    cases a <;> simp [Conv.bytesToString, loadCells]
    all_goals rfl
  · obtain ⟨b, o, rfl, _⟩ := hr.at_ (j := 0) (by omega)
    exact run_convert_bytes_arg (P := P) w src e hs he b o l.length cap l rfl (fun i hi => by obtain ⟨b', o', e1, _, _, hc⟩ := hr.at_ hi; cases e1; exact hc) dst hd
theorem bytesOf_inj15 : ∀ l m : List Int, IsB l → IsB m → Lib.bytesOf l = Lib.bytesOf m → l = m
  | [], [], _, _, _ => rfl
  | [], y :: m, _, _, h => by simp [Lib.bytesOf] at h
  | x :: l, [], _, _, h => by simp [Lib.bytesOf] at h
  | x :: l, y :: m, h1, h2, h => by
    simp only [Lib.bytesOf, List.map_cons, List.cons.injEq] at h
    have hx := h1 x (by simp)
    have hy := h2 y (by simp)
    have e := congrArg UInt8.toNat h.1
    simp at e
    have : x = y := by omega
    rw [this, bytesOf_inj15 l m (fun z hz => h1 z (List.mem_cons_of_mem _ hz)) (fun z hz => h2 z (List.mem_cons_of_mem _ hz)) h.2]
set_option maxRecDepth 100000 in
theorem Equal15 (v u : Value) (l m : List Int) (F G : Nat → Prop) (w : World) (h : BSl w F v l) (k : BSl w G u m) :
    Calls Try.prog 78 #[v, u] w fun e w' => e = .returned (.bool (decide (l = m))) ∧ Kept NoB w w' := by
  have c1 := h.conv15 (P := Try.prog) 34 5 9 Try.underlying34 Try.underlying5 Try.underlying9
  have c2 := k.conv15 (P := Try.prog) 34 5 9 Try.underlying34 Try.underlying5 Try.underlying9
  have HB := Lib.hid h.isB
  have HC := Lib.hid k.isB
  clear h k
  go_enter Try.func78, Try.ntmps78
  go_wp2
  go_ret
  refine ⟨?_, Kept.refl _ _⟩
  show Ending.returned (Value.bool ((strOfNums l).toList == (strOfNums m).toList)) = _
  rw [Lib.strOfNums_toList, Lib.strOfNums_toList]
  congr 2
  by_cases e : l = m
  · subst e; simp
  · rw [decide_eq_false e]
    have := mt (bytesOf_inj15 l m HB.out HC.out) e
    simpa using this
def sameVB (x y : Vn) : Bool := decide (x.r = y.r) && decide (x.q = y.q) && decide (x.d = y.d)
theorem sameVB_same (x : Vn) : sameVB x x = true := by unfold sameVB; simp
theorem sameVB_iff (x y : Vn) : sameVB x y = true ↔ x = y := by
  obtain ⟨x0, x1, x2⟩ := x
  obtain ⟨y0, y1, y2⟩ := y
  unfold sameVB
  simp [and_assoc]
set_option maxRecDepth 100000 in
theorem VSame_any (w : World) (v u : Value) (x y : Vn) (F G : Nat → Prop) (hv : VnV w F v x) (hu : VnV w G u y) : Calls Try.prog 35 #[v, u] w fun e w' => e = .returned (.bool (sameVB x y)) ∧ Kept NoB w w' := by
  obtain ⟨xd, rfl, hb⟩ := hv
  obtain ⟨yd, rfl, hc⟩ := hu
  obtain ⟨x0, x1, x2⟩ := x
  obtain ⟨y0, y1, y2⟩ := y
  simp only at hb hc ⊢
  have HB := Lib.hid hb
  have HC := Lib.hid hc
  obtain ⟨ba, bc, rfl, _⟩ := hb
  obtain ⟨ca, cc, rfl, _⟩ := hc
  have hk := ((Kept.refl NoB w).alloc (.cells #[.int .u64 x0, .int .u64 x1, .slice ba x2.length bc] 43)).alloc (.cells #[.int .u64 y0, .int .u64 y1, .slice ca y2.length cc] 43)
  have HE := Lib.hid (Equal15 _ _ x2 y2 F G _ (HB.out.kept hk (fun _ _ h => h)) (HC.out.kept hk (fun _ _ h => h)))
  have HK := Lib.hid hk
  clear hk
  by_cases h0 : x0 = y0
  · by_cases h1 : x1 = y1
    · have e0 : (x0 == y0) = true := by simpa using h0
      have e1 : (x1 == y1) = true := by simpa using h1
      have HR : Hid (sameVB ⟨x0, x1, x2⟩ ⟨y0, y1, y2⟩ = decide (x2 = y2)) := Lib.hid (by unfold sameVB; simp [h0, h1])
      clear h0 h1
      go_enter Try.func35, Try.ntmps35
      go_wp2_with fail
      refine HE.out.mono ?_
      rintro e w1 ⟨rfl, hk1⟩
      have HK1 := Lib.hid (HK.out.trans hk1 (fun _ _ h => h)); clear hk1
      go_wp2
      go_ret
      exact ⟨by rw [HR.out]; rfl, HK1.out⟩
    · have e0 : (x0 == y0) = true := by simpa using h0
      have e1 : (x1 == y1) = false := by simpa using h1
      have HR : Hid (sameVB ⟨x0, x1, x2⟩ ⟨y0, y1, y2⟩ = false) := Lib.hid (by unfold sameVB; simp [h1])
      clear h0 h1
      go_enter Try.func35, Try.ntmps35
      go_wp2
      go_ret
      exact ⟨by rw [HR.out]; rfl, HK.out⟩
  · have e0 : (x0 == y0) = false := by simpa using h0
    have HR : Hid (sameVB ⟨x0, x1, x2⟩ ⟨y0, y1, y2⟩ = false) := Lib.hid (by unfold sameVB; simp [h0])
    clear h0
    go_enter Try.func35, Try.ntmps35
    go_wp2
    go_ret
    exact ⟨by rw [HR.out]; rfl, HK.out⟩
set_option maxRecDepth 100000 in
theorem RSame15 (w : World) (v u : Value) (x y : Vn) (F G : Nat → Prop) (hv : VnV w F v x) (hu : VnV w G u y) : Calls Try.prog 36 #[v, u] w fun e w' => e = .returned (.bool (sameVB x y)) ∧ Kept NoB w w' := by
  obtain ⟨xd, rfl, hb⟩ := hv
  obtain ⟨yd, rfl, hc⟩ := hu
  obtain ⟨x0, x1, x2⟩ := x
  obtain ⟨y0, y1, y2⟩ := y
  simp only at hb hc ⊢
  have HB := Lib.hid hb
  have HC := Lib.hid hc
  obtain ⟨ba, bc, rfl, _⟩ := hb
  obtain ⟨ca, cc, rfl, _⟩ := hc
  have hk := ((Kept.refl NoB w).alloc (.cells #[.int .u64 x0, .int .u64 x1, .slice ba x2.length bc] 36)).alloc (.cells #[.int .u64 y0, .int .u64 y1, .slice ca y2.length cc] 36)
  have HE := Lib.hid (Same_any _ _ x2 y2 F G _ (HB.out.kept hk (fun _ _ h => h)) (HC.out.kept hk (fun _ _ h => h)))
  have HK := Lib.hid hk
  clear hk
  by_cases h0 : x0 = y0
  · by_cases h1 : x1 = y1
    · have e0 : (x0 == y0) = true := by simpa using h0
      have e1 : (x1 == y1) = true := by simpa using h1
      have HR : Hid (sameVB ⟨x0, x1, x2⟩ ⟨y0, y1, y2⟩ = decide (x2 = y2)) := Lib.hid (by unfold sameVB; simp [h0, h1])
      clear h0 h1
      go_enter Try.func36, Try.ntmps36
      go_wp2_with fail
      refine HE.out.mono ?_
      rintro e w1 ⟨rfl, hk1⟩
      have HK1 := Lib.hid (HK.out.trans hk1 (fun _ _ h => h)); clear hk1
      go_wp2
      go_ret
      exact ⟨by rw [HR.out]; rfl, HK1.out⟩
    · have e0 : (x0 == y0) = true := by simpa using h0
      have e1 : (x1 == y1) = false := by simpa using h1
      have HR : Hid (sameVB ⟨x0, x1, x2⟩ ⟨y0, y1, y2⟩ = false) := Lib.hid (by unfold sameVB; simp [h1])
      clear h0 h1
      go_enter Try.func36, Try.ntmps36
      go_wp2
      go_ret
      exact ⟨by rw [HR.out]; rfl, HK.out⟩
  · have e0 : (x0 == y0) = false := by simpa using h0
    have HR : Hid (sameVB ⟨x0, x1, x2⟩ ⟨y0, y1, y2⟩ = false) := Lib.hid (by unfold sameVB; simp [h0])
    clear h0
    go_enter Try.func36, Try.ntmps36
    go_wp2
    go_ret
    exact ⟨by rw [HR.out]; rfl, HK.out⟩
set_option maxRecDepth 100000 in
theorem ours15 (w : World) (v : Value) (x : Vn) (F : Nat → Prop) (hv : VnV w F v x) : Calls Try.prog 20 #[v] w fun e w' => e = .returned v ∧ Kept NoB w w' := by
  obtain ⟨xd, rfl, hb⟩ := hv
  obtain ⟨ba, bc, rfl, _⟩ := hb
  obtain ⟨x0, x1, x2⟩ := x
  go_enter Try.func20, Try.ntmps20
  go_wp2
  exact bodyPost_ret (v := .agg #[.int .u64 x0, .int .u64 x1, .slice ba x2.length bc]) (by simp [results, Try.results20, go_sem]) rfl ⟨rfl, ((Kept.refl _ _).alloc _).alloc _⟩
set_option maxRecDepth 100000 in
theorem like15 (w : World) (v u : Value) (x y : Vn) (F G : Nat → Prop) (hv : VnV w F v x) (hu : VnV w G u y) : Calls Try.prog 26 #[v, u] w fun e w' => e = .returned (.bool (sameVB x y)) ∧ Kept NoB w w' := by
  have HV := Lib.hid hv
  have HU := Lib.hid hu
  obtain ⟨xd, rfl, hb⟩ := hv
  obtain ⟨yd, rfl, hc⟩ := hu
  obtain ⟨ba, bc, rfl, _⟩ := hb
  obtain ⟨ca, cc, rfl, _⟩ := hc
  have hk := ((Kept.refl NoB w).alloc (.cells #[.int .u64 x.r, .int .u64 x.q, .slice ba x.d.length bc] 43)).alloc (.cells #[.int .u64 y.r, .int .u64 y.q, .slice ca y.d.length cc] 36)
  have HE := Lib.hid (RSame15 _ _ _ x y F G (HV.out.no hk) (HU.out.no hk))
  have HK := Lib.hid hk
  clear hk
  go_enter Try.func26, Try.ntmps26
  go_wp2_with fail
  refine HE.out.mono ?_
  rintro e w1 ⟨rfl, hk1⟩
  have HK1 := Lib.hid (HK.out.trans hk1 (fun _ _ h => h))
  clear hk1
  go_wp2
  go_ret
  exact ⟨rfl, HK1.out⟩
end Go.Proofs.Ytnmclhgljpcjcaa
