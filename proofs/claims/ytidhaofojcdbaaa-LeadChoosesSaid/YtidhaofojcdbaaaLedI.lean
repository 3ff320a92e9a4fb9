/-
  Package lead: the page's example; LeadNil; a call that came in.
-/
import Derived.Test.YtidhaofojcdbaaaLedH
import Derived.Test.YtidhaofojcdbaaaChoO
namespace Go.Proofs.Ytidhaofojcdbaaa
open Go.ChangeShapes Go.WideShapes Go.ChangeAt Go.RowKit Go.Deep
set_option linter.unusedVariables false

def BoolD (b : Bool) (w : World) (e : Ending) (w' : World) : Prop := e = .returned (.bool b) ∧ Kept NoB w w'
theorem set_perm {ss tt : List Int} (h : ss.Perm tt) : clr (ors 0 ss) = clr (ors 0 tt) := by
  refine Nat.eq_of_testBit_eq fun i => ?_
  rw [clr_bit, clr_bit]
  unfold mem
  rw [ors_bit, ors_bit]
  simp only [h.mem_iff]
theorem setIs_of {P : List Vt} {n : Int} {en : Bool} (h : enough (clr (ors 0 (P.map fun v => v.s))) n = en) : SetIs P n en := fun ss hs => by rw [set_perm hs]; exact h
set_option maxRecDepth 100000 in
theorem awake13 (w : World) : Calls Try.prog 10 #[] w (BoolD true w) := by
  go_enter Try.func10, Try.ntmps10
  go_wp2_with fail
  refine (DNew_any w 2 3 (by omega) (by omega) (by omega) (by omega)).mono ?_
  rintro e w1 ⟨g, bp, bq, rfl, hl1, hg, hp, hq, hk1⟩
  have HL1 := Lib.hid hl1
  have HK1 := Lib.hid hk1
  have HGB : Hid (w.heap.size ≤ g ∧ w.heap.size ≤ bp ∧ w.heap.size ≤ bq) := Lib.hid ⟨hg, hp, hq⟩
  clear hl1 hg hp hq hk1
  go_wp2_with fail
  refine (DStart_ok w1 g bp bq 2 3 0 0 0 [] [] HL1.out (by omega) (by omega)).mono ?_
  rintro e w2 ⟨bp2, bq2, rfl, hl2, hp2, hq2, hk2⟩
  have HL2 := Lib.hid hl2
  have HK2 := Lib.hid (HK1.out.trans hk2 (fun i hi e => by have := HGB.out; have e : i = g := e; omega))
  have HGB2 : Hid (w.heap.size ≤ g ∧ w.heap.size ≤ bp2 ∧ w.heap.size ≤ bq2) := Lib.hid (by have := HGB.out; have := HK1.out.size; omega)
  clear hl2 hp2 hq2 hk2
  go_wp2_with fail
  refine (Promise_none w2 g bp2 bq2 3 2 (8 + 2) 0 0 2 [] [] HL2.out (by omega) (fun v hv => by cases hv) (by omega) (by omega) rfl (by simp) false (setIs_of (by decide +kernel))).mono ?_
  rintro e w3 ⟨rfl, ⟨bp3, bq3, hl3, hp3, hq3⟩, hk3⟩
  have HL3 := Lib.hid hl3
  have HK3 := Lib.hid (HK2.out.trans hk3 (fun i hi e => by have := HGB2.out; rcases e with e | e | e <;> omega))
  have HGB3 : Hid (w.heap.size ≤ g ∧ w.heap.size ≤ bp3 ∧ w.heap.size ≤ bq3) := Lib.hid (by have := HGB2.out; have := HK2.out.size; omega)
  clear hl3 hp3 hq3 hk3
  go_wp2_with fail
  refine (Promise_none w3 g bp3 bq3 3 2 (8 + 2) 0 0 3 _ _ HL3.out (by omega) (fun v hv => by
    have hv : v ∈ [wv 2] := hv
    rw [List.mem_singleton] at hv
    subst hv
    exact ⟨by decide, by decide⟩) (by omega) (by omega) rfl (by decide) true (setIs_of (by decide +kernel))).mono ?_
  rintro e w4 ⟨rfl, ⟨bp4, bq4, hl4, hp4, hq4⟩, hk4⟩
  have HL4 := Lib.hid hl4
  have HK4 := Lib.hid (HK3.out.trans hk4 (fun i hi e => by have := HGB3.out; rcases e with e | e | e <;> omega))
  clear hl4 hp4 hq4 hk4
  go_wp2_with fail
  refine (DState_any w4 g bp4 bq4 2 3 _ (8 + 2) 0 0 _ _ HL4.out).mono ?_
  rintro e w5 ⟨rfl, rfl⟩
  go_wp2
  go_ret
  exact ⟨rfl, HK4.out⟩
/-- A call of a leader, by value. -/
structure Op13 where
  kd : Int
  own : Bool
  b : Int
  n : Int
  who : Int
  va : Option Addr
  vl : Nat
  vc : Nat
  k : Int
  ch : Int
  ep : Int
  nd : Int
theorem array10 {α : Type} {cs : Array α} (h : cs.size = 10) : ∃ c0 c1 c2 c3 c4 c5 c6 c7 c8 c9, cs = #[c0, c1, c2, c3, c4, c5, c6, c7, c8, c9] := by
  obtain ⟨l⟩ := cs
  match l, h with
  | [c0, c1, c2, c3, c4, c5, c6, c7, c8, c9], _ => exact ⟨c0, c1, c2, c3, c4, c5, c6, c7, c8, c9, rfl⟩
set_option maxRecDepth 100000 in
theorem op13_open {H : Type} {enc : TypeId × Value → H} {W : World} {base b0 : Nat} {r : Reach} {v : Value} {d : DataW H} {p : List MemPlace} (hv : Value.okWide Try.prog W r b0 63 v)
    (h : DataW.Trod enc Try.prog W base (fun _ => true) true 63 v d p) : ∃ o : Op13, v = .agg #[.int .i64 o.kd, .bool o.own, .int .u64 o.b, .int .i64 o.n, .int .i64 o.who, .slice o.va o.vl o.vc, .int .i64 o.k, .int .i64 o.ch, .int .u64 o.ep, .int .i64 o.nd] ∧ 0 ≤ o.ep := by
  obtain ⟨cs, rfl, hsz⟩ := okWide_struct Try.underlying63 hv
  have hC : Try.prog.cellsOf 63 = 10 := by kernel_rfl
  obtain ⟨c0, c1, c2, c3, c4, c5, c6, c7, c8, c9, rfl⟩ := array10 (hsz.trans hC)
  obtain ⟨fuel, hf⟩ := h
  have hf : DataW.trod enc Try.prog W base (fun _ => true) true fuel 63 [c0, c1, c2, c3, c4, c5, c6, c7, c8, c9] = some (d, p) := by simpa [Value.cells] using hf
  obtain ⟨xs, n', _, _, _, hxl, hg⟩ := DataW.trod_struct Try.underlying63 hf
  have hxl7 : xs.length = 7 := hxl
  match xs, hxl7 with
  | [y0, y1, y2, y3, y4, y5, y6], _ =>
    have g0 : DataW.trod enc Try.prog W base (fun _ => true) true n' 3 [c0] = some y0 := hg 0 _ rfl
    have g1 : DataW.trod enc Try.prog W base (fun _ => true) true n' 4 [c1] = some y1 := hg 1 _ rfl
    have g2 : DataW.trod enc Try.prog W base (fun _ => true) true n' 37 [c2] = some y2 := hg 2 _ rfl
    have g3 : DataW.trod enc Try.prog W base (fun _ => true) true n' 3 [c3] = some y3 := hg 3 _ rfl
    have g4 : DataW.trod enc Try.prog W base (fun _ => true) true n' 3 [c4] = some y4 := hg 4 _ rfl
    have g5 : DataW.trod enc Try.prog W base (fun _ => true) true n' 28 [c5] = some y5 := hg 5 _ rfl
    have g6 : DataW.trod enc Try.prog W base (fun _ => true) true n' 39 [c6, c7, c8, c9] = some y6 := hg 6 _ rfl
    obtain ⟨k0, e0, _, _⟩ := DataW.trod_int Try.underlying3 g0
    obtain ⟨k1, e1, _⟩ := DataW.trod_bool Try.underlying4 g1
    obtain ⟨k2, e2, _, _⟩ := DataW.trod_int Try.underlying37 g2
    obtain ⟨k3, e3, _, _⟩ := DataW.trod_int Try.underlying3 g3
    obtain ⟨k4, e4, _, _⟩ := DataW.trod_int Try.underlying3 g4
    obtain ⟨k6, k7, k8, k9, rfl, rfl, rfl, rfl, h5, h6⟩ := cmd_cells11 g6
    simp only [List.cons.injEq, and_true] at e0 e1 e2 e3 e4
    subst e0 e1 e2 e3 e4
    rcases open_slice Try.underlying28 g5 with ⟨hcs, _⟩ | ⟨x, l, c, m, n, D, Pl, hcs, _, _⟩
    · simp only [List.cons.injEq, and_true] at hcs
      subst hcs
      exact ⟨⟨k0, k1, k2, k3, k4, none, 0, 0, k6, k7, k8, k9⟩, rfl, h5⟩
    · simp only [List.cons.injEq, and_true] at hcs
      subst hcs
      exact ⟨⟨k0, k1, k2, k3, k4, _, _, _, k6, k7, k8, k9⟩, rfl, h5⟩
end Go.Proofs.Ytidhaofojcdbaaa
