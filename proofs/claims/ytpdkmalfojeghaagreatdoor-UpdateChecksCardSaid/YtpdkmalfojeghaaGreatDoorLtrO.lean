/-
  The frame of the cards over letters' parts: an operation on a block that came in, opened; what the listed variable gives.
-/
import Derived.Test.YtpdkmalfojeghaaGreatDoorUpdO
import Derived.Test.YtpdkmalfojeghaaGreatDoorLtrF
import Derived.LaidMore
import Derived.Stop.Joined
import Derived.Stop.LaidErr
import Derived.Lib.LaidTab
import Derived.Lib.SmallJoins
import Derived.Shelf.Vars
import Derived.HandedShaped
import Derived.Lay
import Derived.ChangeSlices
namespace Go.Proofs.YtpdkmalfojeghaaGreatDoor
open Go.ChangeShapes Go.WideShapes Go.ChangeAt Go.RowKit Go.Deep
set_option linter.unusedVariables false

/-- The builder with the listed variables' condition and the world's shape. -/
theorem returns_and_shaped10 {H : Type} {enc : TypeId × Value → H} {a : Assume} {C : Checked} {os : Os} {f : FuncId} {fn : Func} {s : ChangeSpec} {conds : List PathCond} {apart fresh handsOn again : Bool} {X : World → Array Value → Prop}
    (hX : ∀ (w w' : World) (args : Array Value), w.heap = w'.heap → X w args → X w' args)
    (own : ownKnob C.prog.godebug = none) (started : os.Started) (noInit : C.prog.inits.idxOf? f = none) (hfn : C.prog.funcs[f]? = some fn)
    (witness : ∃ (w : World) (tape : Tape) (i : Input), w.os = os ∧ (w.forCall tape i).Shaped C.prog ∧ i.vars = [] ∧ Input.okWide C.prog (w.forCall tape i) .any w.heap.size f i ∧
      ((s.pre enc C.prog fn conds apart (w.forCall tape i).memory i.args ∧ X (w.forCall tape i).memory i.args) ∧ sizedMet enc C.prog fn (OpenSpec.ofChange s) apart (w.forCall tape i).memory i.args) ∧ a.holds C.prog (lone (Frame.enter C.prog f i.args .normal) [] (w.forCall tape i)))
    (contract : ∀ (W : World) (base : Nat) (args : Array Value) (ds gs : List (DataW H)) (before : List MemPlace),
      (∀ (j : Nat) t v, fn.params[j]? = some t → args[j]? = some v → Value.okWide C.prog W .any base t v) →
      DataW.Whole enc C.prog fn.params.toList s.vars apart W args.toList ds gs before →
      X W args → W.ShapedOpen C.prog →
      Calls C.prog f args W fun e W' => ∃ v, e = .returned v ∧ s.post enc C.prog fn apart fresh handsOn again W args v W') :
    ReturnsInHanded a C os f .any (fun w args => (s.pre enc C.prog fn conds apart w args ∧ X w args) ∧ sizedMet enc C.prog fn (OpenSpec.ofChange s) apart w args) (s.post enc C.prog fn apart fresh handsOn again) := by
  refine returnsInHanded_of_calls own started noInit witness ?_
  intro w tape i _ hsh _ hok hpre hholds
  obtain ⟨_, _, _, fn', hfn', _, _, _, _, hval⟩ := hok
  have e : fn' = fn := Option.some.inj (hfn'.symm.trans hfn)
  subst e
  obtain ⟨⟨⟨ds, gs, before, hw, hc⟩, hx⟩, hz⟩ := hpre
  have hw' := DataW.Whole.of_heap (w' := w.forCall tape i) (by rfl) hw
  refine (contract (w.forCall tape i) w.heap.size i.args ds gs before hval hw' (hX _ _ _ (by rfl) hx) hsh).mono fun e W' ⟨v, he, hp⟩ => ?_
  subst he
  exact ChangeSpec.post_blind hp
theorem tKp : (Tryz.prog.globals[1]?).map (·.type) = some 214 := by kernel_rfl
theorem kp_is {H : Type} : (Rows.laid_catenary_letter_kindParts : DataW H) = Lib.tabData .u32 kpTab := by rfl
theorem tab10_of {W : World} {r : List (String × DataW Unit)} (hL : laidMet Tryz.prog (("catenary/letter.kindParts", Rows.laid_catenary_letter_kindParts) :: r) W) : Tab10 W := by
  have h : laidMet Tryz.prog (("catenary/letter.kindParts", Lib.tabData .u32 kpTab) :: r) W := kp_is ▸ hL
  exact Lib.tabIs_of_head gKp tKp Tryz.underlying214 Tryz.underlying23 (by kernel_rfl) (by kernel_rfl) h
section
variable {H : Type} {enc : TypeId × Value → H} {W : World} {base b0 : Nat}
/-- An operation on a block: Kind, Key, Ver, Data, Pick. -/
structure Bo where
  k : Int
  key : Int
  r : Int
  d : List Int
  p : Int
set_option maxRecDepth 100000 in
/-- An operation by value. -/
theorem bo_open {r : Reach} {v : Value} {d : DataW H} {p : List MemPlace} (hv : Value.okWide Tryz.prog W r b0 56 v)
    (h : DataW.Trod enc Tryz.prog W base (fun _ => true) true 56 v d p) : ∃ o : Bo, (∃ a c, v = .agg #[.int .i64 o.k, .int .u32 o.key, .int .u64 o.r, .slice a o.d.length c, .int .i64 o.p] ∧ BSl W (fun k => k < W.heap.size) (.slice a o.d.length c) o.d) ∧ 0 ≤ o.key ∧ o.key ≤ 4294967295 ∧ 0 ≤ o.r ∧ o.r ≤ 18446744073709551615 := by
  obtain ⟨cs, rfl, hsz⟩ := okWide_struct Tryz.underlying56 hv
  have hC : Tryz.prog.cellsOf 56 = 5 := by kernel_rfl
  obtain ⟨l⟩ := cs
  obtain ⟨c0, c1, c2, c3, c4, rfl⟩ := list5u (cs := l) (hsz.trans hC)
  obtain ⟨fuel, hf⟩ := h
  obtain ⟨xs, n', _, _, _, hxl, hg⟩ := DataW.trod_struct Tryz.underlying56 (by simpa [Value.cells] using hf)
  have hxl5 : xs.length = 5 := hxl
  match xs, hxl5 with
  | [y0, y1, y2, y3, y4], _ =>
    have g0 : DataW.trod enc Tryz.prog W base (fun _ => true) true n' 3 [c0] = some y0 := hg 0 _ rfl
    have g1 : DataW.trod enc Tryz.prog W base (fun _ => true) true n' 23 [c1] = some y1 := hg 1 _ rfl
    have g2 : DataW.trod enc Tryz.prog W base (fun _ => true) true n' 22 [c2] = some y2 := hg 2 _ rfl
    have g3 : DataW.trod enc Tryz.prog W base (fun _ => true) true n' 32 [c3] = some y3 := hg 3 _ rfl
    have g4 : DataW.trod enc Tryz.prog W base (fun _ => true) true n' 3 [c4] = some y4 := hg 4 _ rfl
    obtain ⟨k0, e0, _, w0⟩ := DataW.trod_int Tryz.underlying3 g0
    obtain ⟨k1, e1, _, w1⟩ := DataW.trod_int Tryz.underlying23 g1
    obtain ⟨k2, e2, _, w2⟩ := DataW.trod_int Tryz.underlying22 g2
    obtain ⟨l, hl⟩ := bsl_cell17 g3
    obtain ⟨k4, e4, _, w4⟩ := DataW.trod_int Tryz.underlying3 g4
    simp only [List.cons.injEq, and_true] at e0 e1 e2 e4
    subst e0 e1 e2 e4
    have hk1 := bounds_u32 w1
    have hk2 := bounds_u64 w2
    obtain ⟨a, c, rfl, rest⟩ := id hl
    exact ⟨⟨k0, k1, k2, l, k4⟩, ⟨a, c, rfl, hl⟩, hk1.1, hk1.2, hk2.1, hk2.2⟩
end
end Go.Proofs.YtpdkmalfojeghaaGreatDoor
