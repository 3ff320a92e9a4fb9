/-
  The page's example of roles; the walk of RoleIs. Package role and the chapter: Newer, Missing. Configurations and numbers that came in, opened (for a seat of plain rows).
-/
import Derived.Test.YtclfecninhipnaaGreatDoorRol1
import Derived.Test.YtclfecninhipnaaGreatDoorFrameP
import Derived.Test.YtclfecninhipnaaGreatDoorCnf3
namespace Go.Proofs.YtclfecninhipnaaGreatDoor
open Go.RowKit
set_option linter.unusedVariables false
set_option linter.unusedSimpArgs false

def AnyC : Nat → Prop := fun _ => True
/-- The example's configuration. -/
def exC : Cf := ⟨0, 1, [1, 2, 3], false, 4⟩
theorem exC_rl : rlOf exC 3 = ⟨true, false, false, true, false, 2, 2, 4⟩ := by
  unfold rlOf
  rw [if_pos (show rgtB exC = true by decide), if_pos (show (3 : Int) ∈ exC.ns by decide), show plc exC.ns 3 = 2 by decide]
  rfl
end Go.Proofs.YtclfecninhipnaaGreatDoor
namespace Go.Proofs.YtclfecninhipnaaGreatDoor
open Go.RowKit
set_option linter.unusedVariables false
set_option linter.unusedSimpArgs false

def newB (o c : Cf) : Bool := rgtB c && (decide (o.ch = c.ch) && decide (o.ep < c.ep))
set_option maxRecDepth 100000 in
set_option maxHeartbeats 1000000 in
theorem Newer19 (v u : Value) (o c : Cf) (w : World) (ho : CfR w AnyC v o) (h : CfR w AnyC u c) : Calls Tryz.prog 70 #[v, u] w (BoolE (newB o c) w) := by
  have HR := Lib.hid (fun w' (hk : Kept NoB w w') => Right19 _ c AnyC w' (h.no hk))
  have HD : Hid (newB o c = (rgtB c && (decide (o.ch = c.ch) && decide (o.ep < c.ep)))) := Lib.hid rfl
  obtain ⟨u1, rfl, hn, h0, htop⟩ := h
  obtain ⟨a, cap, rfl, hn1, hn2, _⟩ := hn
  obtain ⟨u2, rfl, hn', h0', htop'⟩ := ho
  obtain ⟨a', cap', rfl, hn1', hn2', _⟩ := hn'
  obtain ⟨d, hd⟩ : ∃ d, d = newB o c := ⟨_, rfl⟩
  rw [← hd] at HD ⊢
  obtain ⟨r, hr⟩ : ∃ r, r = rgtB c := ⟨_, rfl⟩
  rw [← hr] at HR HD
  obtain ⟨ch, ep, ns, fr, jn⟩ := c
  obtain ⟨ch', ep', ns', fr', jn'⟩ := o
  simp only at HR HD h0 htop h0' htop' ⊢
  obtain ⟨m, hm⟩ : ∃ m, m = ns.length := ⟨_, rfl⟩
  obtain ⟨m', hm'⟩ : ∃ m, m = ns'.length := ⟨_, rfl⟩
  rw [← hm] at HR ⊢
  rw [← hm']
  clear hd hr hm hm' hn1 hn2 hn1' hn2'
  have hb1 := heap_alloc_new w (.cells #[.int .i64 ch', .int .u64 ep', .slice a' m' cap', .bool fr', .int .i64 jn'] 44)
  obtain ⟨V, hV⟩ : ∃ V, V = (w.alloc (.cells #[.int .i64 ch', .int .u64 ep', .slice a' m' cap', .bool fr', .int .i64 jn'] 44)).alloc (.cells #[.int .i64 ch, .int .u64 ep, .slice a m cap, .bool fr, .int .i64 jn] 44) := ⟨_, rfl⟩
  have HB1 : Hid (V.heap[w.heap.size]? = some (.cells #[.int .i64 ch', .int .u64 ep', .slice a' m' cap', .bool fr', .int .i64 jn'] 44 (0, 0))) := Lib.hid (by rw [hV]; exact balloc19 hb1 _)
  have HB2 : Hid (V.heap[w.heap.size + 1]? = some (.cells #[.int .i64 ch, .int .u64 ep, .slice a m cap, .bool fr, .int .i64 jn] 44 (0, 0))) := Lib.hid (by
    have := heap_alloc_new (w.alloc (.cells #[.int .i64 ch', .int .u64 ep', .slice a' m' cap', .bool fr', .int .i64 jn'] 44)) (.cells #[.int .i64 ch, .int .u64 ep, .slice a m cap, .bool fr, .int .i64 jn] 44)
    rw [show (w.alloc (.cells #[.int .i64 ch', .int .u64 ep', .slice a' m' cap', .bool fr', .int .i64 jn'] 44)).heap.size = w.heap.size + 1 by simp] at this
    rw [hV]; exact this)
  have HK : Hid (Kept NoB w V) := Lib.hid (by rw [hV]; exact ((Kept.refl _ _).alloc _).alloc _)
  have HV := Lib.hid hV
  clear hb1 hV
  go_enter Tryz.func70, Tryz.ntmps70
  go_wp2_with fail
  rw [← HV.out]
  refine (HR.out _ HK.out).mono ?_
  rintro e w1 ⟨rfl, hk⟩
  have HK1 := Lib.hid (HK.out.trans hk (fun _ _ h => h))
  obtain ⟨c0, c1, c2, c3, c4⟩ := cells5 (hk.heap (fun h => h) HB1.out)
  obtain ⟨d0, d1, d2, d3, d4⟩ := cells5 (hk.heap (fun h => h) HB2.out)
  clear hk
  cases r with
  | false =>
    go_wp2
    go_ret
    exact ⟨(by rw [HD.out] <;> rfl), HK1.out⟩
  | true =>
    by_cases h1 : ch' = ch
    · subst h1
      by_cases h2 : ep' < ep
      · have HE : Hid (d = true) := Lib.hid (by rw [HD.out]; simp [h2])
        have h2d : decide (ep' < ep) = true := decide_eq_true h2
        clear HD
        go_wp2
        go_ret
        exact ⟨(by rw [HE.out] <;> rfl), HK1.out⟩
      · have HE : Hid (d = false) := Lib.hid (by rw [HD.out]; simp [h2])
        have h2d : decide (ep' < ep) = false := decide_eq_false h2
        clear HD
        go_wp2
        go_ret
        exact ⟨(by rw [HE.out] <;> rfl), HK1.out⟩
    · have HE : Hid (d = false) := Lib.hid (by rw [HD.out]; simp [h1])
      have h1b : (ch' == ch) = false := beq_eq_false_iff_ne.2 h1
      have h1c : (ch == ch') = false := beq_eq_false_iff_ne.2 (fun e => h1 e.symm)
      clear HD h1
      go_wp2
      go_ret
      exact ⟨(by rw [HE.out] <;> rfl), HK1.out⟩
/-- Are all settled nodes down? -/
def missB (c : Cf) (l : List Int) : Bool := c.set.all (fun n => decide (n ∈ l))
theorem miss_not (l : List Int) (m : List Int) : (!(m.any fun x => !decide (x ∈ l))) = m.all (fun n => decide (n ∈ l)) := by
  induction m with
  | nil => rfl
  | cons x m ih => simp only [List.any_cons, List.all_cons, ← ih]; cases decide (x ∈ l) <;> simp
end Go.Proofs.YtclfecninhipnaaGreatDoor
namespace Go.Proofs.YtclfecninhipnaaGreatDoor
open Go.ChangeShapes Go.WideShapes Go.ChangeAt Go.RowKit Go.Deep
set_option linter.unusedVariables false

theorem addr_add9 (b o j : Nat) : (⟨b, o, none⟩ : Addr).add j = ⟨b, o + j, none⟩ := by unfold Addr.add; split <;> simp_all
theorem pick_all9 {α : Type} {m : Nat} {Q : Nat → α → Prop} (z : α) (h : ∀ j, j < m → ∃ x, Q j x) : ∃ f : Nat → α, ∀ j, j < m → Q j (f j) :=
  ⟨fun j => if hj : j < m then Classical.choose (h j hj) else z, fun j hj => by
    simp only [dif_pos hj]
    exact Classical.choose_spec (h j hj)⟩
section
variable {H : Type} {enc : TypeId × Value → H} {W : World} {base b0 : Nat}
/-- A slice of numbers in a cell. -/
theorem nsl_cell {fuel : Nat} {c : Value} {x : DataW H × List MemPlace} (h : DataW.trod enc Tryz.prog W base (fun _ => true) true fuel 42 [c] = some x) : ∃ l : List Int, NSl W (fun _ => True) c l := by
  rcases open_ints Tryz.underlying42 Tryz.underlying3 (by kernel_rfl) h with ⟨hcs, _⟩ | ⟨x, len, cap, zs, hcs, _, hl, hm, hz, _, hcell, hwz⟩
  · simp only [List.cons.injEq, and_true] at hcs
    subst hcs
    exact ⟨[], NSl.nil _ _⟩
  · simp only [List.cons.injEq, and_true] at hcs
    subst hcs
    have hzl : zs.length = cap := by simpa using hz
    have e : (zs.take len).length = len := by rw [List.length_take]; omega
    refine ⟨zs.take len, some x, cap, by rw [e], by omega, hm, (fun h => by cases h), fun hp => ?_⟩
    rw [e] at hp
    obtain ⟨b, o, spot⟩ := x
    have h0 := hcell 0 (by omega)
    have hspot : spot = none := by simpa [Addr.add] using World.cell?_spot h0
    subst hspot
    have hbl := World.block_lt_of_cell? W _ h0
    rw [addr_add9] at hbl
    refine ⟨b, o, rfl, trivial, hbl, fun j hj => ?_⟩
    rw [e] at hj
    rw [← addr_add9, hcell j (by omega)]
    simp [show j < len by omega]
theorem array5 {α : Type} {cs : Array α} (h : cs.size = 5) : ∃ c0 c1 c2 c3 c4, cs = #[c0, c1, c2, c3, c4] := by
  obtain ⟨l⟩ := cs
  match l, h with
  | [c0, c1, c2, c3, c4], _ => exact ⟨c0, c1, c2, c3, c4, rfl⟩
set_option maxRecDepth 100000 in
/-- Five cells that read as a configuration. -/
theorem cf_cells {fuel : Nat} {c0 c1 c2 c3 c4 : Value} {x : DataW H × List MemPlace} (ht : DataW.trod enc Tryz.prog W base (fun _ => true) true fuel 44 [c0, c1, c2, c3, c4] = some x) :
    ∃ c : Cf, c0 = .int .i64 c.ch ∧ c1 = .int .u64 c.ep ∧ NSl W (fun _ => True) c2 c.ns ∧ c3 = .bool c.fr ∧ c4 = .int .i64 c.jn ∧ 0 ≤ c.ep ∧ c.ep ≤ topE := by
  obtain ⟨xs, n', _, _, _, hxl, hg⟩ := DataW.trod_struct Tryz.underlying44 ht
  have hxl5 : xs.length = 5 := hxl
  match xs, hxl5 with
  | [y0, y1, y2, y3, y4], _ =>
    have g0 : DataW.trod enc Tryz.prog W base (fun _ => true) true n' 3 [c0] = some y0 := hg 0 _ rfl
    have g1 : DataW.trod enc Tryz.prog W base (fun _ => true) true n' 23 [c1] = some y1 := hg 1 _ rfl
    have g2 : DataW.trod enc Tryz.prog W base (fun _ => true) true n' 42 [c2] = some y2 := hg 2 _ rfl
    have g3 : DataW.trod enc Tryz.prog W base (fun _ => true) true n' 4 [c3] = some y3 := hg 3 _ rfl
    have g4 : DataW.trod enc Tryz.prog W base (fun _ => true) true n' 3 [c4] = some y4 := hg 4 _ rfl
    obtain ⟨k0, e0, _, _⟩ := DataW.trod_int Tryz.underlying3 g0
    obtain ⟨k1, e1, _, w1⟩ := DataW.trod_int Tryz.underlying23 g1
    obtain ⟨l, hl⟩ := nsl_cell g2
    obtain ⟨k3, e3, _⟩ := DataW.trod_bool Tryz.underlying4 g3
    obtain ⟨k4, e4, _, _⟩ := DataW.trod_int Tryz.underlying3 g4
    simp only [List.cons.injEq, and_true] at e0 e1 e3 e4
    subst e0 e1 e3 e4
    have hk := bounds_u64 w1
    exact ⟨⟨k0, k1, l, k3, k4⟩, rfl, rfl, hl, rfl, rfl, hk.1, hk.2⟩
set_option maxRecDepth 100000 in
/-- A configuration by value. -/
theorem cf_open {r : Reach} {v : Value} {d : DataW H} {p : List MemPlace} (hv : Value.okWide Tryz.prog W r b0 44 v)
    (h : DataW.Trod enc Tryz.prog W base (fun _ => true) true 44 v d p) : ∃ c : Cf, CfR W (fun _ => True) v c := by
  obtain ⟨cs, rfl, hsz⟩ := okWide_struct Tryz.underlying44 hv
  have hC : Tryz.prog.cellsOf 44 = 5 := by kernel_rfl
  obtain ⟨c0, c1, c2, c3, c4, rfl⟩ := array5 (hsz.trans hC)
  obtain ⟨fuel, hf⟩ := h
  obtain ⟨c, rfl, rfl, hn, rfl, rfl, h0, h1⟩ := cf_cells (by simpa [Value.cells] using hf)
  exact ⟨c, c2, rfl, hn, h0, h1⟩
/-- A slice of numbers. -/
theorem ns_open {d : DataW H} {p : List MemPlace} {a : Option Addr} {len cap : Nat}
    (h : DataW.Trod enc Tryz.prog W base (fun _ => true) true 42 (.slice a len cap) d p) : ∃ l : List Int, NSl W (fun _ => True) (.slice a len cap) l := by
  obtain ⟨fuel, hf⟩ := h
  exact nsl_cell (by simpa [Value.cells] using hf)
end
end Go.Proofs.YtclfecninhipnaaGreatDoor
