/-
  Commands and votes that came in: opened. Votes that came in, opened: a slice of them. Commands that came in, in a slice: opened, with both bounds of their epochs. Package chosen: a log in memory; At, Next, Done. Package chosen: Confs, Conf, Can, New. Package chosen, in plain words; execute. Package chosen: apply. Package chosen: Learn.
-/
import Derived.Test.YtidhaofojcdbaaaAcc1
import Derived.Test.YtidhaofojcdbaaaCnf1
import Derived.Test.YtidhaofojcdbaaaCnf5
import Derived.Maps.RangeWalk
import Derived.Test.YtidhaofojcdbaaaCnf2
import Derived.Deep.CutRange
namespace Go.Proofs.Ytidhaofojcdbaaa
open Go.ChangeShapes Go.WideShapes Go.ChangeAt Go.RowKit Go.Deep
set_option linter.unusedVariables false

theorem array4c {α : Type} {cs : Array α} (h : cs.size = 4) : ∃ c0 c1 c2 c3, cs = #[c0, c1, c2, c3] := by
  obtain ⟨l⟩ := cs
  match l, h with
  | [c0, c1, c2, c3], _ => exact ⟨c0, c1, c2, c3, rfl⟩
set_option maxRecDepth 100000 in
/-- A command by value. -/
theorem cmd_open12 {H : Type} {enc : TypeId × Value → H} {W : World} {base b0 : Nat} {r : Reach} {v : Value} {d : DataW H} {p : List MemPlace} (hv : Value.okWide Try.prog W r b0 39 v)
    (h : DataW.Trod enc Try.prog W base (fun _ => true) true 39 v d p) : ∃ o : Vt, v = .agg #[.int .i64 o.k, .int .i64 o.ch, .int .u64 o.ep, .int .i64 o.nd] ∧ 0 ≤ o.ep ∧ o.ep ≤ 18446744073709551615 := by
  obtain ⟨cs, rfl, hsz⟩ := okWide_struct Try.underlying39 hv
  have hC : Try.prog.cellsOf 39 = 4 := by kernel_rfl
  obtain ⟨c0, c1, c2, c3, rfl⟩ := array4c (hsz.trans hC)
  obtain ⟨fuel, hf⟩ := h
  obtain ⟨k0, k1, k2, k3, rfl, rfl, rfl, rfl, h0, h1⟩ := cmd_cells11 (by simpa [Value.cells] using hf)
  exact ⟨⟨0, 0, k0, k1, k2, k3⟩, rfl, h0, h1⟩
end Go.Proofs.Ytidhaofojcdbaaa
namespace Go.Proofs.Ytidhaofojcdbaaa
open Go.ChangeShapes Go.WideShapes Go.ChangeAt Go.RowKit Go.Deep
set_option linter.unusedVariables false

section
variable {H : Type} {enc : TypeId × Value → H} {W : World} {base b0 : Nat}
/-- The numbers of a vote that fit. -/
def VtFit (o : Vt) : Prop := 0 ≤ o.b ∧ o.b ≤ 18446744073709551615 ∧ -9223372036854775808 ≤ o.s ∧ o.s ≤ 9223372036854775807 ∧ 0 ≤ o.ep ∧ o.ep ≤ 18446744073709551615
set_option maxRecDepth 100000 in
/-- Six cells that read as a vote. -/
theorem vt_cells12 {fuel : Nat} {c0 c1 c2 c3 c4 c5 : Value} {x : DataW H × List MemPlace} (ht : DataW.trod enc Try.prog W base (fun _ => true) true fuel 48 [c0, c1, c2, c3, c4, c5] = some x) :
    ∃ o : Vt, c0 = .int .i64 o.s ∧ c1 = .int .u64 o.b ∧ c2 = .int .i64 o.k ∧ c3 = .int .i64 o.ch ∧ c4 = .int .u64 o.ep ∧ c5 = .int .i64 o.nd ∧ VtFit o := by
  obtain ⟨xs, n', _, _, _, hxl, hg⟩ := DataW.trod_struct Try.underlying48 ht
  have hxl3 : xs.length = 3 := hxl
  match xs, hxl3 with
  | [y0, y1, y2], _ =>
    have g0 : DataW.trod enc Try.prog W base (fun _ => true) true n' 3 [c0] = some y0 := hg 0 _ rfl
    have g1 : DataW.trod enc Try.prog W base (fun _ => true) true n' 37 [c1] = some y1 := hg 1 _ rfl
    have g2 : DataW.trod enc Try.prog W base (fun _ => true) true n' 39 [c2, c3, c4, c5] = some y2 := hg 2 _ rfl
    obtain ⟨k0, e0, _, w0⟩ := DataW.trod_int Try.underlying3 g0
    obtain ⟨k1, e1, _, w1⟩ := DataW.trod_int Try.underlying37 g1
    obtain ⟨k2, k3, k4, k5, rfl, rfl, rfl, rfl, h5, h6⟩ := cmd_cells11 g2
    simp only [List.cons.injEq, and_true] at e0 e1
    subst e0 e1
    have hk1 := bounds_u64 w1
    have hk0 := bounds_i64 w0
    exact ⟨⟨k0, k1, k2, k3, k4, k5⟩, rfl, rfl, rfl, rfl, rfl, rfl, hk1.1, hk1.2, hk0.1, hk0.2, h5, h6⟩
/-- The value is a slice of n votes, of any kind. -/
def VtsAt (w : World) (v : Value) (n : Nat) (it : Nat → Vt) : Prop :=
  ∃ a cap, v = .slice a n cap ∧ n ≤ 9223372036854775807 ∧ (0 < n → ∃ b o, a = some ⟨b, o, none⟩ ∧ b < w.heap.size ∧ ∀ j, j < n → VtAt w b (o + j * 6) (it j) ∧ VtFit (it j))
theorem list6v {α : Type} {cs : List α} (h : cs.length = 6) : ∃ c0 c1 c2 c3 c4 c5, cs = [c0, c1, c2, c3, c4, c5] := by
  match cs, h with
  | [c0, c1, c2, c3, c4, c5], _ => exact ⟨c0, c1, c2, c3, c4, c5, rfl⟩
set_option maxRecDepth 100000 in
theorem vts_open {d : DataW H} {p : List MemPlace} {a : Option Addr} {len cap : Nat}
    (h : DataW.Trod enc Try.prog W base (fun _ => true) true 28 (.slice a len cap) d p) : ∃ it : Nat → Vt, VtsAt W (.slice a len cap) len it := by
  obtain ⟨fuel, hf⟩ := h
  rcases open_slice Try.underlying28 hf with ⟨hcs, _⟩ | ⟨x, l, c, m, n, D, Pl, hcs, _, hl, hm, hmm, _, hi⟩
  · simp [Value.cells] at hcs
    obtain ⟨rfl, rfl, rfl⟩ := hcs
    exact ⟨fun _ => vt0, none, 0, rfl, Nat.zero_le _, fun h => absurd h (by omega)⟩
  · simp [Value.cells] at hcs
    obtain ⟨rfl, rfl, rfl⟩ := hcs
    simp only [if_true] at hmm
    subst hmm
    have hC : Try.prog.cellsOf 48 = 6 := by kernel_rfl
    rw [hC] at hi
    unfold maxLen at hm
    have key : ∀ j, j < m → ∃ it : Vt, W.cell? (x.add (j * 6)) = some (.int .i64 it.s) ∧ W.cell? ((x.add (j * 6)).add 1) = some (.int .u64 it.b) ∧ W.cell? ((x.add (j * 6)).add 2) = some (.int .i64 it.k) ∧
        W.cell? ((x.add (j * 6)).add 3) = some (.int .i64 it.ch) ∧ W.cell? ((x.add (j * 6)).add 4) = some (.int .u64 it.ep) ∧ W.cell? ((x.add (j * 6)).add 5) = some (.int .i64 it.nd) ∧ VtFit it := by
      intro j hj
      obtain ⟨cs', hc, ht⟩ := hi j hj
      obtain ⟨_, hlen, hat⟩ := World.cells?_some hc
      obtain ⟨c0, c1, c2, c3, c4, c5, rfl⟩ := list6v hlen
      obtain ⟨o, rfl, rfl, rfl, rfl, rfl, rfl, hfit⟩ := vt_cells12 ht
      have a0 : ∀ y : Addr, y.add 0 = y := fun y => by unfold Addr.add; split <;> simp_all
      have h0 := hat 0 (by omega)
      rw [a0] at h0
      exact ⟨o, h0, hat 1 (by omega), hat 2 (by omega), hat 3 (by omega), hat 4 (by omega), hat 5 (by omega), hfit⟩
    obtain ⟨it, hit⟩ := pick_all vt0 key
    refine ⟨it, some x, m, rfl, by omega, fun hp => ?_⟩
    obtain ⟨h0, _⟩ := hit 0 (by omega)
    obtain ⟨b, o, spot⟩ := x
    have hspot : spot = none := by simpa [Addr.add] using World.cell?_spot h0
    subst hspot
    have hb := World.block_lt_of_cell? W _ h0
    rw [addr_add] at hb
    refine ⟨b, o, rfl, hb, fun j hj => ?_⟩
    obtain ⟨e0, e1, e2, e3, e4, e5, hf⟩ := hit j (by omega)
    simp only [addr_add] at e0 e1 e2 e3 e4 e5
    exact ⟨⟨e0, e1, e2, e3, e4, e5⟩, hf⟩
end
end Go.Proofs.Ytidhaofojcdbaaa
namespace Go.Proofs.Ytidhaofojcdbaaa
open Go.ChangeShapes Go.WideShapes Go.ChangeAt Go.RowKit Go.Deep
set_option linter.unusedVariables false

/-- The value is a slice of n commands, of any kind. -/
def Cm2 (w : World) (v : Value) (n : Nat) (it : Nat → Vt) : Prop :=
  ∃ a cap, v = .slice a n cap ∧ n ≤ 9223372036854775807 ∧ (0 < n → ∃ b o, a = some ⟨b, o, none⟩ ∧ b < w.heap.size ∧ ∀ j, j < n → CmC w b (o + j * 4) (it j).k (it j).ch (it j).ep (it j).nd ∧ 0 ≤ (it j).ep ∧ (it j).ep ≤ 18446744073709551615)
set_option maxRecDepth 100000 in
theorem cm2_open {H : Type} {enc : TypeId × Value → H} {W : World} {base : Nat} {d : DataW H} {p : List MemPlace} {a : Option Addr} {len cap : Nat}
    (h : DataW.Trod enc Try.prog W base (fun _ => true) true 53 (.slice a len cap) d p) : ∃ it : Nat → Vt, Cm2 W (.slice a len cap) len it := by
  obtain ⟨fuel, hf⟩ := h
  rcases open_slice Try.underlying53 hf with ⟨hcs, _⟩ | ⟨x, l, c, m, n, D, Pl, hcs, _, hl, hm, hmm, _, hi⟩
  · simp [Value.cells] at hcs
    obtain ⟨rfl, rfl, rfl⟩ := hcs
    exact ⟨fun _ => vt0, none, 0, rfl, Nat.zero_le _, fun h => absurd h (by omega)⟩
  · simp [Value.cells] at hcs
    obtain ⟨rfl, rfl, rfl⟩ := hcs
    simp only [if_true] at hmm
    subst hmm
    have hC : Try.prog.cellsOf 39 = 4 := by kernel_rfl
    rw [hC] at hi
    unfold maxLen at hm
    have key : ∀ j, j < m → ∃ it : Vt, W.cell? (x.add (j * 4)) = some (.int .i64 it.k) ∧ W.cell? ((x.add (j * 4)).add 1) = some (.int .i64 it.ch) ∧ W.cell? ((x.add (j * 4)).add 2) = some (.int .u64 it.ep) ∧
        W.cell? ((x.add (j * 4)).add 3) = some (.int .i64 it.nd) ∧ 0 ≤ it.ep ∧ it.ep ≤ 18446744073709551615 := by
      intro j hj
      obtain ⟨cs', hc, ht⟩ := hi j hj
      obtain ⟨_, hlen, hat⟩ := World.cells?_some hc
      match cs', hlen with
      | [c0, c1, c2, c3], _ =>
        obtain ⟨k0, k1, k2, k3, rfl, rfl, rfl, rfl, h5, h6⟩ := cmd_cells11 ht
        have a0 : ∀ y : Addr, y.add 0 = y := fun y => by unfold Addr.add; split <;> simp_all
        refine ⟨⟨0, 0, k0, k1, k2, k3⟩, ?_, hat 1 (by omega), hat 2 (by omega), hat 3 (by omega), h5, h6⟩
        have := hat 0 (by omega)
        rw [a0] at this
        exact this
    obtain ⟨it, hit⟩ := pick_all vt0 key
    refine ⟨it, some x, m, rfl, by omega, fun hp => ?_⟩
    obtain ⟨h0, _⟩ := hit 0 (by omega)
    obtain ⟨b, o, spot⟩ := x
    have hspot : spot = none := by simpa [Addr.add] using World.cell?_spot h0
    subst hspot
    have hb := World.block_lt_of_cell? W _ h0
    rw [addr_add] at hb
    refine ⟨b, o, rfl, hb, fun j hj => ?_⟩
    obtain ⟨e0, e1, e2, e3, h2⟩ := hit j (by omega)
    simp only [addr_add] at e0 e1 e2 e3
    exact ⟨⟨e0, e1, e2, e3⟩, h2⟩
end Go.Proofs.Ytidhaofojcdbaaa
namespace Go.Proofs.Ytidhaofojcdbaaa
open Go.RowKit
set_option linter.unusedVariables false

theorem zero_cmd12 (w : World) : (zeroValue 39).run Try.prog w = .ok (vcv vt0) w := by kernel_rfl
theorem getD_vc (o : Option Vt) : (o.map vcv).getD (vcv vt0) = vcv (o.getD vt0) := by cases o <;> rfl
/-- Any block but the log's two. -/
def NL (g bm : Nat) : Nat → Prop := fun k => k ≠ g ∧ k ≠ bm
/-- The log's own blocks. -/
def LB (g bm : Nat) : Nat → Prop := fun k => k = g ∨ k = bm
theorem NL.not {g bm k : Nat} (h : NL g bm k) : ¬ LB g bm k := fun e => e.elim h.1 h.2
/-- Block g is a log: what is known lies in the map of block bm. -/
structure LogAt (w : World) (F : Nat → Prop) (g bm : Nat) (L : List Vt) (nx dn : Int) (a : Option Addr) (c : Nat) (l : List Cf) : Prop where
  cells : w.heap[g]? = some (.cells #[.map (some bm), .int .i64 nx, .int .i64 dn, .slice a l.length c] 139 (0, 0))
  cfs : CfsAt w F (.slice a l.length c) l
  sub : ∀ k, F k → NL g bm k
  map : MapV Try.prog 3 vcv w bm L
  ok : ∀ v ∈ L, VtOk v ∧ Chk v.k v.ch v.ep v.nd 0
  n0 : 0 ≤ nx
  n1 : nx ≤ 512
  d0 : 0 ≤ dn
  d1 : dn ≤ nx
  few : l.length ≤ 1000
theorem LogAt.kept {S : Nat → Prop} {w w' : World} {F : Nat → Prop} {g bm : Nat} {L : List Vt} {nx dn : Int} {a : Option Addr} {c : Nat} {l : List Cf} (h : LogAt w F g bm L nx dn a c l) (hk : Kept S w w') (hg : ¬ S g) (hb : ¬ S bm) (hs : ∀ k, k < w.heap.size → F k → ¬ S k) : LogAt w' F g bm L nx dn a c l :=
  ⟨hk.heap hg h.cells, h.cfs.kept hk hs, h.sub, h.map.kept hk hb, h.ok, h.n0, h.n1, h.d0, h.d1, h.few⟩
theorem LogAt.no {w w' : World} {F : Nat → Prop} {g bm : Nat} {L : List Vt} {nx dn : Int} {a : Option Addr} {c : Nat} {l : List Cf} (h : LogAt w F g bm L nx dn a c l) (hk : Kept NoB w w') : LogAt w' F g bm L nx dn a c l := h.kept hk (fun h => h) (fun h => h) (fun _ _ _ h => h)
theorem LogAt.c {w : World} {F : Nat → Prop} {g bm : Nat} {L : List Vt} {nx dn : Int} {a : Option Addr} {c : Nat} {l : List Cf} (h : LogAt w F g bm L nx dn a c l) :
    w.cell? ⟨g, 0, none⟩ = some (.map (some bm)) ∧ w.cell? ⟨g, 1, none⟩ = some (.int .i64 nx) ∧ w.cell? ⟨g, 2, none⟩ = some (.int .i64 dn) ∧ w.cell? ⟨g, 3, none⟩ = some (.slice a l.length c) :=
  ⟨cell_of_row _ _ 0 _ _ _ h.cells, cell_of_row _ _ 1 _ _ _ h.cells, cell_of_row _ _ 2 _ _ _ h.cells, cell_of_row _ _ 3 _ _ _ h.cells⟩
theorem LogAt.f {w : World} {F : Nat → Prop} {g bm : Nat} {L : List Vt} {nx dn : Int} {a : Option Addr} {c : Nat} {l : List Cf} (h : LogAt w F g bm L nx dn a c l) (o : Nat) : w.frozen? ⟨g, o, none⟩ = false := blkA_frozen h.cells o
theorem LogAt.lt {w : World} {F : Nat → Prop} {g bm : Nat} {L : List Vt} {nx dn : Int} {a : Option Addr} {c : Nat} {l : List Cf} (h : LogAt w F g bm L nx dn a c l) : g < w.heap.size ∧ bm < w.heap.size ∧ bm ≠ g := ⟨heap_lt h.cells, h.map.lt, h.map.ne h.cells⟩
/-- Four cells that are a command. -/
theorem cc12 {w : World} {b : Nat} {v : Vt} (h : w.heap[b]? = some (.cells #[.int .i64 v.k, .int .i64 v.ch, .int .u64 v.ep, .int .i64 v.nd] 39 (0, 0))) :
    w.cell? ⟨b, 0, none⟩ = some (.int .i64 v.k) ∧ w.cell? ⟨b, 1, none⟩ = some (.int .i64 v.ch) ∧ w.cell? ⟨b, 2, none⟩ = some (.int .u64 v.ep) ∧ w.cell? ⟨b, 3, none⟩ = some (.int .i64 v.nd) :=
  ⟨cell_of_row _ _ 0 _ _ _ h, cell_of_row _ _ 1 _ _ _ h, cell_of_row _ _ 2 _ _ _ h, cell_of_row _ _ 3 _ _ _ h⟩
theorem LNext_any (w : World) (F : Nat → Prop) (g bm : Nat) (L : List Vt) (nx dn : Int) (a : Option Addr) (c : Nat) (l : List Cf) (h : LogAt w F g bm L nx dn a c l) : Calls Try.prog 37 #[.pointer (some ⟨g, 0, none⟩)] w fun e w' => e = .returned (.int .i64 nx) ∧ w = w' := by
  obtain ⟨c0, c1, c2, c3⟩ := h.c
  clear h
  go_enter Try.func37, Try.ntmps37
  go_wp2
  go_ret
  exact ⟨rfl, rfl⟩
theorem LNext_nil (w : World) : Calls Try.prog 37 #[.pointer none] w fun e w' => e = .returned (.int .i64 0) ∧ w = w' := by
  go_enter Try.func37, Try.ntmps37
  go_wp2
  go_ret
  exact ⟨rfl, rfl⟩
theorem LDone_any (w : World) (F : Nat → Prop) (g bm : Nat) (L : List Vt) (nx dn : Int) (a : Option Addr) (c : Nat) (l : List Cf) (h : LogAt w F g bm L nx dn a c l) : Calls Try.prog 46 #[.pointer (some ⟨g, 0, none⟩)] w fun e w' => e = .returned (.int .i64 dn) ∧ w = w' := by
  obtain ⟨c0, c1, c2, c3⟩ := h.c
  clear h
  go_enter Try.func46, Try.ntmps46
  go_wp2
  go_ret
  exact ⟨rfl, rfl⟩
theorem LDone_nil (w : World) : Calls Try.prog 46 #[.pointer none] w fun e w' => e = .returned (.int .i64 0) ∧ w = w' := by
  go_enter Try.func46, Try.ntmps46
  go_wp2
  go_ret
  exact ⟨rfl, rfl⟩
set_option maxRecDepth 100000 in
theorem LAt_any (w : World) (F : Nat → Prop) (g bm : Nat) (s : Int) (L : List Vt) (nx dn : Int) (a : Option Addr) (c : Nat) (l : List Cf) (h : LogAt w F g bm L nx dn a c l) (hwf : (Lit.int .i64 s).wf = true) : Calls Try.prog 40 #[.pointer (some ⟨g, 0, none⟩), .int .i64 s] w fun e w' =>
    e = .returned (.tuple #[vcv ((atV L s).getD vt0), .bool (atV L s).isSome]) ∧ Kept NoB w w' := by
  have HK0 := Lib.hid ((Kept.refl NoB w).alloc (.cells #[.int .i64 0, .int .i64 0, .int .u64 0, .int .i64 0] 39))
  have h1 := h.no HK0.out
  obtain ⟨c0, c1, c2, c3⟩ := h1.c
  have HM := Lib.hid h1.map
  obtain ⟨b, hbb⟩ : ∃ b, b = (atV L s).isSome := ⟨_, rfl⟩
  obtain ⟨⟨y0, y1, y2, y3, y4, y5⟩, hv⟩ : ∃ v, v = (atV L s).getD vt0 := ⟨_, rfl⟩
  have HBB := Lib.hid hbb
  have HV := Lib.hid hv
  have hgl := h.lt.1
  rw [← hbb, ← hv]
  clear h h1 hbb hv
  go_enter Try.func40, Try.ntmps40
  go_wp2_with (at_lookup; refine wpList_look_mv _ rfl _ _ 136 rfl 3 39 Try.underlying3 Try.underlying136 (vcv vt0) (zero_cmd12 _) bm vcv L s rfl HM.out rfl hwf ?_; rw [getD_vc, ← HBB.out, ← HV.out, show vcv ⟨y0, y1, y2, y3, y4, y5⟩ = .agg #[.int .i64 y2, .int .i64 y3, .int .u64 y4, .int .i64 y5] from rfl])
  have h1 := heap_alloc_new w (.cells #[.int .i64 y2, .int .i64 y3, .int .u64 y4, .int .i64 y5] 39)
  have h2 := blkA_alloc h1 (.cells #[.int .i64 y2, .int .i64 y3, .int .u64 y4, .int .i64 y5] 39)
  obtain ⟨r0, r1, r2, r3⟩ := cc12 (v := ⟨y0, y1, y2, y3, y4, y5⟩) h2
  have hk2 : Kept NoB w ((w.alloc (.cells #[.int .i64 y2, .int .i64 y3, .int .u64 y4, .int .i64 y5] 39)).alloc (.cells #[.int .i64 y2, .int .i64 y3, .int .u64 y4, .int .i64 y5] 39)) := ((Kept.refl _ _).alloc _).alloc _
  clear h1 h2
  generalize hW : World.alloc (World.alloc _ _) _ = W at r0 r1 r2 r3 hk2 ⊢
  exact bodyPost_ret (v := .tuple #[.agg #[.int .i64 y2, .int .i64 y3, .int .u64 y4, .int .i64 y5], .bool b]) (by simp [results, Try.results40, go_sem, r0, r1, r2, r3]) rfl ⟨rfl, hk2⟩
theorem LAt_nil (w : World) (s : Int) : Calls Try.prog 40 #[.pointer none, .int .i64 s] w fun e w' => e = .returned (.tuple #[vcv vt0, .bool false]) ∧ Kept NoB w w' := by
  go_enter Try.func40, Try.ntmps40
  go_wp2
  have h1 := heap_alloc_new w (.cells #[.int .i64 0, .int .i64 0, .int .u64 0, .int .i64 0] 39)
  obtain ⟨r0, r1, r2, r3⟩ := cc12 (v := vt0) h1
  have hk2 : Kept NoB w (w.alloc (.cells #[.int .i64 0, .int .i64 0, .int .u64 0, .int .i64 0] 39)) := (Kept.refl _ _).alloc _
  clear h1
  generalize hW : World.alloc _ _ = W at r0 r1 r2 r3 hk2 ⊢
  exact bodyPost_ret (v := .tuple #[.agg #[.int .i64 0, .int .i64 0, .int .u64 0, .int .i64 0], .bool false]) (by simp [results, Try.results40, go_sem, r0, r1, r2, r3]; simp [vt0]) rfl ⟨rfl, hk2⟩
/-- What Top tells. -/
def TopIs (L : List Vt) (t : Int) : Prop := (∀ v ∈ L, v.s + 1 ≤ t) ∧ ((t = 0 ∧ L = []) ∨ ∃ v ∈ L, t = v.s + 1)
def TopRel (P : Program) (w0 : World) (r bm : Nat) (L : List Vt) (tv : Value) (wr : World) : Prop :=
  ∃ (t : Int) (left : Lit → Bool) (cnt : Nat), tv = .int .i64 t ∧ wr.ranges P 3 heldE bm r L.length (datV vcv L) left cnt ∧ (∀ v ∈ L, left (.int .i64 v.s) = false → v.s + 1 ≤ t) ∧ (t = 0 ∨ ∃ v ∈ L, t = v.s + 1) ∧ (∀ z, left z = true → Maps.has (datV vcv L) z = true) ∧ Kept (fun k => k = r) w0 wr
theorem LTop_nil (w : World) : Calls Try.prog 42 #[.pointer none] w fun e w' => e = .returned (.int .i64 0) ∧ w = w' := by
  go_enter Try.func42, Try.ntmps42
  go_wp2
  go_ret
  exact ⟨rfl, rfl⟩
set_option maxRecDepth 100000 in
set_option maxHeartbeats 1000000 in
theorem LTop_any (w : World) (F : Nat → Prop) (g bm : Nat) (L : List Vt) (nx dn : Int) (a : Option Addr) (c : Nat) (l : List Cf) (h : LogAt w F g bm L nx dn a c l) : Calls Try.prog 42 #[.pointer (some ⟨g, 0, none⟩)] w fun e w' => ∃ t, e = .returned (.int .i64 t) ∧ TopIs L t ∧ Kept NoB w w' := by
  obtain ⟨c0, c1, c2, c3⟩ := h.c
  have hkey : Maps.Keyed Try.prog 3 := Maps.int_keyed Try.underlying3
  have HM := Lib.hid h.map.2
  have HOK := Lib.hid h.ok
  have HSR := Lib.hid h.map.1
  clear h
  go_enter Try.func42, Try.ntmps42
  go_wp2_with (first
    | (at_range; refine wpList_range_own _ rfl _ 136 rfl 3 39 hkey Try.underlying136 heldE bm L.length _ rfl HM.out ?_; intro w0 hrg0 hg0 hs0; have HR0 := Lib.hid hrg0; have HK0 := Lib.hid ((Kept.refl NoB w).grown hg0 (fun k hk => by cases hk)); clear hrg0 hg0 hs0))
  go_frame
  go_loopw [3] (TopRel Try.prog w0 w.heap.size bm L) (fun _ wr => wr.rangeLeft bm w.heap.size)
  case atStart =>
    refine ⟨0, _, _, rfl, HR0.out, fun v hv hl => ?_, .inl rfl, fun z hz => hz, Kept.refl _ _⟩
    rw [datV_has] at hl
    have := atV_mem HSR.out hv
    rw [this] at hl
    cases hl
  case round =>
    obtain ⟨t, left, cnt, rfl, hrg, hlo, hhi, hin, hkk⟩ := hrel
    have HLO := Lib.hid hlo
    have HHI := Lib.hid hhi
    have HIN := Lib.hid hin
    have HKK := Lib.hid hkk
    have HRG := Lib.hid hrg
    clear hlo hhi hin hkk hrg
    go_wp2_with (first
      | (at_next; refine wpList_next_ranges _ rfl _ rfl 3 hkey heldE (Value.int .i64) (fun v : Value => v) (fun key kl hkey => by obtain ⟨x, rfl, _⟩ := Maps.keyOf_int_inv Try.underlying3 hkey; exact ⟨x, rfl⟩) (fun v y _ => ⟨v, rfl⟩) bm w.heap.size L.length _ left cnt rfl HRG.out ?_ ?_))
    · intro hc0 hl0
      have HL0 := Lib.hid hl0
      clear hc0 hl0
      go_wp2
      go_ret
      refine ⟨t, rfl, ⟨fun v hv => HLO.out v hv (HL0.out _), ?_⟩, ?_⟩
      · rcases HHI.out with h | h
        · by_cases hn : L = []
          · exact .inl ⟨h, hn⟩
          · obtain ⟨v, hv⟩ := List.exists_mem_of_ne_nil L hn
            have h1 := HLO.out v hv (HL0.out _)
            have h2 := (HOK.out v hv).1
            unfold VtOk at h2
            omega
        · exact .inr h
      · exact HK0.out.trans HKK.out (fun i hi e => by have e : i = w.heap.size := e; omega)
    · intro x cv kl ya yb w1 cnt1 hkx hlx hy hat hrg1 hlt hg1 hs1 hen
      obtain ⟨x', ex, rfl, hwx⟩ := Maps.keyOf_int_inv Try.underlying3 hkx
      cases ex
      have hh := HIN.out _ hlx
      rw [datV_has] at hh
      obtain ⟨v, hv⟩ := Option.isSome_iff_exists.1 hh
      obtain ⟨hvs, hvm⟩ := atV_slot hv
      have hvo := (HOK.out v hvm).1
      unfold VtOk at hvo
      have HRG1 := Lib.hid hrg1
      have HG1 := Lib.hid hg1
      have HVM := Lib.hid hvm
      have HVS := Lib.hid hvs
      have HLT := Lib.hid hlt
      have hx0 : 0 ≤ x := by omega
      have hx1 : x < 512 := by omega
      have hwr : IntKind.i64.wrap (x + 1) = x + 1 := IntWalk.i64_in _ (by omega)
      clear hkx hlx hy hat hrg1 hlt hg1 hs1 hh hv hvs hvm hvo hwx
      go_wp2
      refine ⟨⟨if t < x + 1 then x + 1 else t, _, cnt1, rfl, HRG1.out, fun v' hv' hl => ?_, ?_, fun z hz => ?_, HKK.out.grown HG1.out (fun k hk => .inl (by injection hk with hk; exact hk.symm))⟩, by rw [HRG1.out.left_eq, HRG.out.left_eq]; exact HLT.out⟩
      · rw [same_i64] at hl
        by_cases e : v'.s = x
        · split <;> omega
        · have hl2 : left (.int .i64 v'.s) = false := by simpa [e] using hl
          have := HLO.out v' hv' hl2
          split <;> omega
      · split
        · exact .inr ⟨v, HVM.out, by have := HVS.out; omega⟩
        · exact HHI.out
      · simp only [Bool.and_eq_true] at hz
        exact HIN.out z hz.1
end Go.Proofs.Ytidhaofojcdbaaa
namespace Go.Proofs.Ytidhaofojcdbaaa
open Go.RowKit
set_option linter.unusedVariables false

/-- A block of cells that may be written. -/
def Wr (w : World) (k : Nat) : Prop := ∃ cs t, w.heap[k]? = some (.cells cs t (0, 0))
theorem Wr.kept {S : Nat → Prop} {w w' : World} {k : Nat} (h : Wr w k) (hk : Kept S w w') (hs : ¬ S k) : Wr w' k := by
  obtain ⟨cs, t, h⟩ := h
  exact ⟨cs, t, hk.heap hs h⟩
/-- Blocks from B on, that may be written. -/
def NwW (B : Nat) (w : World) : Nat → Prop := fun k => B ≤ k ∧ Wr w k
theorem CfsAt.keptW {S : Nat → Prop} {w w' : World} {v : Value} {l : List Cf} {B : Nat} (h : CfsAt w (NwW B w) v l) (hk : Kept S w w') (hs : ∀ k, B ≤ k → ¬ S k) : CfsAt w' (NwW B w') v l :=
  (h.kept hk (fun k _ hF => hs k hF.1)).mono (fun k _ hF => ⟨hF.1, hF.2.kept hk (hs k hF.1)⟩)
theorem NSl.keptW {S : Nat → Prop} {w w' : World} {v : Value} {l : List Int} {B : Nat} (h : NSl w (NwW B w) v l) (hk : Kept S w w') (hs : ∀ k, B ≤ k → ¬ S k) : NSl w' (NwW B w') v l :=
  (h.kept hk (fun k _ hF => hs k hF.1)).mono (fun k _ hF => ⟨hF.1, hF.2.kept hk (hs k hF.1)⟩)
theorem IOwn.wr {B : Nat} {w : World} {v : Value} {l : List Int} (h : IOwn B w v l) {k : Nat} (hk : v.ownBlock = some k) : NwW B w k := by
  rcases h.2 with ⟨rfl, _⟩ | ⟨r, cap, cur, rfl, hb, hr, _⟩
  · cases hk
  · injection hk with hk
    subst hk
    exact ⟨hb, cur, _, hr⟩
theorem copy_new {l : List Cf} {w w' : World} {e : Ending} (h : CopyEnd l w e w') : ∃ a cap, e = .returned (.slice a l.length cap) ∧ CfsAt w' (NwW w.heap.size w') (.slice a l.length cap) l ∧ Kept NoB w w' := by
  obtain ⟨hk, ⟨rfl, a, c, rfl, h1, h2⟩ | ⟨r, cap, us, rfl, hr, hrow, hown⟩⟩ := h
  · exact ⟨a, c, rfl, ⟨a, c, rfl, Nat.zero_le _, h1, h2, fun h => absurd h (by simp)⟩, hk⟩
  · refine ⟨_, _, rfl, hrow.cfs (fun j hj => ⟨(hown.1 j hj).1.nsl (fun k hk => (hown.1 j hj).1.wr hk), (hown.1 j hj).2⟩) ⟨hr, ?_⟩, hk⟩
    obtain ⟨cs, h1, _⟩ := hrow
    exact ⟨cs, _, h1⟩
theorem LConfs_any (w : World) (F : Nat → Prop) (g bm : Nat) (L : List Vt) (nx dn : Int) (a : Option Addr) (c : Nat) (l : List Cf) (h : LogAt w F g bm L nx dn a c l) : Calls Try.prog 36 #[.pointer (some ⟨g, 0, none⟩)] w fun e w' =>
    ∃ a' c', e = .returned (.slice a' l.length c') ∧ CfsAt w' (NwW w.heap.size w') (.slice a' l.length c') l ∧ Kept NoB w w' := by
  obtain ⟨c0, c1, c2, c3⟩ := h.c
  have HC := Lib.hid ((Copy_any _ l w _ h.cfs h.few).mono (fun _ _ h => copy_new h))
  clear h
  go_enter Try.func36, Try.ntmps36
  go_wp2_with fail
  refine HC.out.mono ?_
  rintro e w1 ⟨a', c', rfl, h1, h2⟩
  have H1 := Lib.hid h1
  have H2 := Lib.hid h2
  clear h1 h2
  go_wp2
  go_ret
  exact ⟨a', c', rfl, H1.out, H2.out⟩
theorem LConfs_nil (w : World) : Calls Try.prog 36 #[.pointer none] w fun e w' => e = .returned (.slice none 0 0) ∧ w = w' := by
  go_enter Try.func36, Try.ntmps36
  go_wp2
  go_ret
  exact ⟨rfl, rfl⟩
theorem LCan_nil (w : World) (k ch ep nd : Int) : Calls Try.prog 45 #[.pointer none, .agg #[.int .i64 k, .int .i64 ch, .int .u64 ep, .int .i64 nd]] w fun e w' => e = .returned (.int .i64 2) ∧ Kept NoB w w' := by
  go_enter Try.func45, Try.ntmps45
  go_wp2
  go_ret
  exact ⟨rfl, (Kept.refl _ _).alloc _⟩
set_option maxRecDepth 100000 in
theorem LCan_any (w : World) (F : Nat → Prop) (g bm : Nat) (L : List Vt) (nx dn : Int) (a : Option Addr) (c : Nat) (l : List Cf) (e0 k ch ep nd : Int) (h : LogAt w F g bm L nx dn a c l) (hx : Chk k ch ep nd e0) (hep : 0 ≤ ep) : Calls Try.prog 45 #[.pointer (some ⟨g, 0, none⟩), .agg #[.int .i64 k, .int .i64 ch, .int .u64 ep, .int .i64 nd]] w (IntE (canC l e0 k ch ep nd) w) := by
  have HK := Lib.hid ((Kept.refl NoB w).alloc (.cells #[.int .i64 k, .int .i64 ch, .int .u64 ep, .int .i64 nd] 39))
  have HB := Lib.hid (heap_alloc_new w (.cells #[.int .i64 k, .int .i64 ch, .int .u64 ep, .int .i64 nd] 39))
  have H := Lib.hid (h.no HK.out)
  have hgl := h.lt.1
  have hq1 : ¬ g = w.heap.size := by omega
  clear h
  go_enter Try.func45, Try.ntmps45
  go_wp2_with fail
  obtain ⟨W, hW⟩ : ∃ W, W = w.alloc (.cells #[.int .i64 k, .int .i64 ch, .int .u64 ep, .int .i64 nd] 39) := ⟨_, rfl⟩
  rw [← hW] at H HB HK ⊢
  clear hW
  obtain ⟨c0, c1, c2, c3⟩ := H.out.c
  obtain ⟨d0, d1, d2, d3⟩ := cells4c HB.out
  have HC := Lib.hid (fun w' (hk : Kept NoB W w') => Can_any _ l e0 k ch ep nd F w' (H.out.no hk).cfs hx hep)
  clear hx hep
  have HKe := Lib.hid (Kept.refl NoB W).drew
  have HTEN : Hid (∀ w', Kept NoB W w' → w'.cell? ⟨g, 3, none⟩ = some (.slice a l.length c) ∧ w'.cell? ⟨w.heap.size, 0, none⟩ = some (.int .i64 k) ∧ w'.cell? ⟨w.heap.size, 1, none⟩ = some (.int .i64 ch) ∧ w'.cell? ⟨w.heap.size, 2, none⟩ = some (.int .u64 ep) ∧ w'.cell? ⟨w.heap.size, 3, none⟩ = some (.int .i64 nd)) := Lib.hid (fun w' hk => ⟨hk.cell (p := ⟨g, 3, none⟩) (fun h => h) c3, hk.cell (p := ⟨w.heap.size, 0, none⟩) (fun h => h) d0, hk.cell (p := ⟨w.heap.size, 1, none⟩) (fun h => h) d1, hk.cell (p := ⟨w.heap.size, 2, none⟩) (fun h => h) d2, hk.cell (p := ⟨w.heap.size, 3, none⟩) (fun h => h) d3⟩)
  have HT := Lib.hid (HTEN.out _ HKe.out)
  clear c0 c1 c2 c3 d0 d1 d2 d3
  go_region_held3 (fun w' => w'.cell? ⟨g, 3, none⟩ = some (.slice a l.length c) ∧ w'.cell? ⟨w.heap.size, 0, none⟩ = some (.int .i64 k) ∧ w'.cell? ⟨w.heap.size, 1, none⟩ = some (.int .i64 ch) ∧ w'.cell? ⟨w.heap.size, 2, none⟩ = some (.int .u64 ep) ∧ w'.cell? ⟨w.heap.size, 3, none⟩ = some (.int .i64 nd))
    (with_reducible exact HT.out)
    ((go_at_call 84; (with_reducible refine (HC.out _ HKe.out).mono ?_); rintro e w1 ⟨rfl, hk1⟩; replace HKe := Lib.hid (HKe.out.trans hk1 (fun _ _ h => h)); replace HT := Lib.hid (HTEN.out _ HKe.out); clear hk1))
  all_goals
    go_wp2
    go_ret
    exact ⟨rfl, HK.out.trans HKe.out (fun _ _ h => h)⟩
/-- A configuration in a block's five cells, stored one by one. -/
def five (w : World) (b : Nat) (x0 x1 x2 x3 x4 : Value) : World := ((((w.setCell ⟨b, 0, none⟩ x0).setCell ⟨b, 1, none⟩ x1).setCell ⟨b, 2, none⟩ x2).setCell ⟨b, 3, none⟩ x3).setCell ⟨b, 4, none⟩ x4
theorem five_at {w : World} {b : Nat} {y0 y1 y2 y3 y4 : Value} (h : w.heap[b]? = some (.cells #[y0, y1, y2, y3, y4] 84 (0, 0))) (x0 x1 x2 x3 x4 : Value) : (five w b x0 x1 x2 x3 x4).heap[b]? = some (.cells #[x0, x1, x2, x3, x4] 84 (0, 0)) :=
  bset5 (bset5 (bset5 (bset5 (bset5 h 0 x0) 1 x1) 2 x2) 3 x3) 4 x4
theorem Kept.five {S : Nat → Prop} {a w : World} (h : Kept S a w) {b : Nat} (hb : S b ∨ a.heap.size ≤ b) (x0 x1 x2 x3 x4 : Value) : Kept S a (Go.Proofs.Ytidhaofojcdbaaa.five w b x0 x1 x2 x3 x4) :=
  ((((h.setCell (p := ⟨b, 0, none⟩) hb x0).setCell (p := ⟨b, 1, none⟩) hb x1).setCell (p := ⟨b, 2, none⟩) hb x2).setCell (p := ⟨b, 3, none⟩) hb x3).setCell (p := ⟨b, 4, none⟩) hb x4
/-- A configuration as a value, written out. -/
def cfz : Value := .agg #[.int .i64 0, .int .u64 0, .slice none 0 0, .bool false, .int .i64 0]
theorem LConf_no (w : World) (x : Value) (ch : Int) (hx : x = .pointer none ∨ ∃ F g bm L nx dn a c l, x = .pointer (some ⟨g, 0, none⟩) ∧ LogAt w F g bm L nx dn a c l ∧ (ch < 0 ∨ (l.length : Int) ≤ ch)) : Calls Try.prog 41 #[x, .int .i64 ch] w fun e w' => e = .returned (.tuple #[cfz, .bool false]) ∧ Kept NoB w w' := by
  have h1 := heap_alloc_new w (.cells #[.int .i64 0, .int .u64 0, .slice none 0 0, .bool false, .int .i64 0] 84)
  have hk2 : Kept NoB w (w.alloc (.cells #[.int .i64 0, .int .u64 0, .slice none 0 0, .bool false, .int .i64 0] 84)) := (Kept.refl _ _).alloc _
  have HH := Lib.hid h1
  have HK := Lib.hid hk2
  clear h1 hk2
  rcases hx with rfl | ⟨F, g, bm, L, nx, dn, a, c, l, rfl, h, hr⟩
  · go_enter Try.func41, Try.ntmps41
    go_wp2
    obtain ⟨r0, r1, r2, r3, r4⟩ := cells5 HH.out
    have hk2 := HK.out
    generalize hW : World.alloc _ _ = W at r0 r1 r2 r3 r4 hk2 ⊢
    exact bodyPost_ret (v := .tuple #[.agg #[.int .i64 0, .int .u64 0, .slice none 0 0, .bool false, .int .i64 0], .bool false]) (by simp [results, Try.results41, go_sem, r0, r1, r2, r3, r4]) rfl ⟨rfl, hk2⟩
  · have HL := Lib.hid (h.no HK.out)
    have hgl := h.lt.1
    have hq1 : ¬ g = w.heap.size := by omega
    have hq2 : ¬ w.heap.size = g := fun e => hq1 e.symm
    clear h
    obtain ⟨W, hW⟩ : ∃ W, W = w.alloc (.cells #[.int .i64 0, .int .u64 0, .slice none 0 0, .bool false, .int .i64 0] 84) := ⟨_, rfl⟩
    have HW := Lib.hid hW
    rw [← hW] at HH HK HL
    clear hW
    by_cases hn : ch < 0
    · clear hr
      go_enter Try.func41, Try.ntmps41
      go_wp2
      rw [← HW.out]
      obtain ⟨r0, r1, r2, r3, r4⟩ := cells5 HH.out
      exact bodyPost_ret (v := .tuple #[.agg #[.int .i64 0, .int .u64 0, .slice none 0 0, .bool false, .int .i64 0], .bool false]) (by simp [results, Try.results41, go_sem, r0, r1, r2, r3, r4]) rfl ⟨rfl, HK.out⟩
    · have hn0 : 0 ≤ ch := by omega
      have hge : (l.length : Int) ≤ ch := by omega
      clear hr hn
      go_enter Try.func41, Try.ntmps41
      go_upto_region 1 with fail
      rw [← HW.out]
      obtain ⟨c0, c1, c2, c3⟩ := HL.out.c
      obtain ⟨r0, r1, r2, r3, r4⟩ := cells5 HH.out
      obtain ⟨f0, f1, f2, f3, f4⟩ := frz5 HH.out
      go_wp2
      have hF := five_at HH.out (.int .i64 0) (.int .u64 0) (.slice none 0 0) (.bool false) (.int .i64 0)
      have hK := HK.out.five (.inr (Nat.le_refl _)) (.int .i64 0) (.int .u64 0) (.slice none 0 0) (.bool false) (.int .i64 0)
      clear r0 r1 r2 r3 r4 f0 f1 f2 f3 f4 c0 c1 c2 c3
      obtain ⟨r0, r1, r2, r3, r4⟩ := cells5 hF
      clear hF
      unfold five at r0 r1 r2 r3 r4 hK
      generalize hW : World.setCell _ _ _ = W2 at r0 r1 r2 r3 r4 hK ⊢
      exact bodyPost_ret (v := .tuple #[.agg #[.int .i64 0, .int .u64 0, .slice none 0 0, .bool false, .int .i64 0], .bool false]) (by simp [results, Try.results41, go_sem, r0, r1, r2, r3, r4]) rfl ⟨rfl, hK⟩
set_option maxRecDepth 100000 in
theorem LConf_in (w : World) (F : Nat → Prop) (g bm : Nat) (L : List Vt) (nx dn : Int) (a : Option Addr) (c : Nat) (l : List Cf) (h : LogAt w F g bm L nx dn a c l) (j : Nat) (hj : j < l.length) : Calls Try.prog 41 #[.pointer (some ⟨g, 0, none⟩), .int .i64 j] w fun e w' =>
    ∃ v, e = .returned (.tuple #[v, .bool true]) ∧ CfV w' (NwW w.heap.size w') v (nthC l j) ∧ Kept NoB w w' := by
  have HH := Lib.hid (heap_alloc_new w (.cells #[.int .i64 0, .int .u64 0, .slice none 0 0, .bool false, .int .i64 0] 84))
  have HK := Lib.hid ((Kept.refl NoB w).alloc (.cells #[.int .i64 0, .int .u64 0, .slice none 0 0, .bool false, .int .i64 0] 84))
  have HL := Lib.hid (h.no HK.out)
  have hfew := h.few
  obtain ⟨y, hy⟩ : ∃ y, y = nthC l j := ⟨_, rfl⟩
  rw [← hy]
  have HY := Lib.hid hy
  clear hy
  have hj0 : (0 : Int) ≤ (j : Int) := by omega
  have hj1 : (j : Int) < (l.length : Int) := by omega
  have hge : decide ((l.length : Int) ≤ (j : Int)) = false := decide_eq_false (by omega)
  clear h
  obtain ⟨W, hW⟩ : ∃ W, W = w.alloc (.cells #[.int .i64 0, .int .u64 0, .slice none 0 0, .bool false, .int .i64 0] 84) := ⟨_, rfl⟩
  have HW := Lib.hid hW
  have HSZ : Hid (W.heap.size = w.heap.size + 1) := Lib.hid (by rw [hW]; simp)
  rw [← hW] at HH HK HL
  clear hW
  go_enter Try.func41, Try.ntmps41
  go_upto_region 1 with fail
  rw [← HW.out]
  obtain ⟨c0, c1, c2, c3⟩ := HL.out.c
  go_wp2_with fail
  refine (LConfs_any W F g bm L nx dn a c l HL.out).mono ?_
  rintro e w1 ⟨a1, c1', rfl, hcf, hk⟩
  have HH1 := Lib.hid (hk.heap (fun h => h) HH.out)
  have HK1 := Lib.hid (HK.out.trans hk (fun _ _ h => h))
  clear c0 c1 c2 c3
  obtain ⟨b, o, rfl, hb, _, u, d0, d1, d2, d3, d4, hns, hbd⟩ := hcf.at_ hj
  obtain ⟨ua, uc, rfl, _⟩ := id hns
  have HNS := Lib.hid hns
  have HBD := Lib.hid hbd
  rw [← HY.out] at d0 d1 d2 d3 d4 HNS HBD
  clear hns hbd hcf hk HY
  obtain ⟨ych, yep, yns, yfr, yjn⟩ := y
  simp only at d0 d1 d2 d3 d4 HNS HBD
  obtain ⟨r0, r1, r2, r3, r4⟩ := cells5 HH1.out
  obtain ⟨f0, f1, f2, f3, f4⟩ := frz5 HH1.out
  have HBW : Hid (W.heap.size ≤ b) := Lib.hid hb.1
  have hq1 : ¬ b = w.heap.size := by have := HSZ.out; have := HBW.out; omega
  have hq2 : ¬ w.heap.size = b := fun e => hq1 e.symm
  clear hb
  go_wp2
  have hF := five_at HH1.out (.int .i64 ych) (.int .u64 yep) (.slice ua yns.length uc) (.bool yfr) (.int .i64 yjn)
  have hK := HK1.out.five (.inr (Nat.le_refl _)) (.int .i64 ych) (.int .u64 yep) (.slice ua yns.length uc) (.bool yfr) (.int .i64 yjn)
  have hN := HNS.out.keptW ((Kept.refl (fun k => k = w.heap.size) w1).five (.inl rfl) (.int .i64 ych) (.int .u64 yep) (.slice ua yns.length uc) (.bool yfr) (.int .i64 yjn)) (fun k h e => by have := HSZ.out; have e : k = w.heap.size := e; omega)
  clear r0 r1 r2 r3 r4 f0 f1 f2 f3 f4 d0 d1 d2 d3 d4
  obtain ⟨r0, r1, r2, r3, r4⟩ := cells5 hF
  clear hF
  unfold five at r0 r1 r2 r3 r4 hK hN
  generalize hW : World.setCell _ _ _ = W2 at r0 r1 r2 r3 r4 hK hN ⊢
  exact bodyPost_ret (v := .tuple #[.agg #[.int .i64 ych, .int .u64 yep, .slice ua yns.length uc, .bool yfr, .int .i64 yjn], .bool true]) (by simp [results, Try.results41, go_sem, r0, r1, r2, r3, r4]) rfl ⟨_, rfl, ⟨_, rfl, hN.mono (fun k _ h => ⟨by have := HSZ.out; have := h.1; omega, h.2⟩), HBD.out⟩, hK⟩
def NewE (l : List Cf) (w : World) (e : Ending) (w' : World) : Prop :=
  (AllC l ∧ ∃ g bm a c, e = .returned (.tuple #[.pointer (some ⟨g, 0, none⟩), .int .i64 0]) ∧ LogAt w' (fun k => w.heap.size ≤ k ∧ NL g bm k) g bm [] 0 0 a c l ∧ w.heap.size ≤ g ∧ w.heap.size ≤ bm ∧ Kept NoB w w') ∨ (¬ AllC l ∧ e = .returned (.tuple #[.pointer none, .int .i64 1]) ∧ Kept NoB w w')
theorem LNew_any (w : World) (v : Value) (l : List Cf) (F : Nat → Prop) (h : CfsAt w F v l) : Calls Try.prog 32 #[v] w (NewE l w) := by
  obtain ⟨a, cap, rfl, _⟩ := id h
  have HA := Lib.hid (All_any _ l F w h)
  have hmm := @run_makeMap Try.prog
  by_cases hA : AllC l
  · have hl : l.length ≤ 1000 := by have := hA.2.1; omega
    have HAA := Lib.hid hA
    rw [show allB l = true from decide_eq_true hA] at HA
    have HCP := Lib.hid (fun w' (hk : Kept NoB w w') => (Copy_any _ l w' F (h.kept hk (fun _ _ _ h => h)) hl).mono (fun _ _ h => copy_new h))
    clear h hA
    go_enter Try.func32, Try.ntmps32
    go_wp2_with fail
    refine HA.out.mono ?_
    rintro e w1 ⟨rfl, hk1⟩
    have HK1 := Lib.hid hk1
    have HK2 := Lib.hid (hk1.alloc (.map #[] 0))
    clear hk1
    go_wp2_with fail
    have HM := Lib.hid (MapV.made Try.prog 3 vcv w1)
    refine (HCP.out _ HK2.out).mono ?_
    rintro e w2 ⟨a2, c2, rfl, hcf, hk2⟩
    have HCF := Lib.hid hcf
    have HM2 := Lib.hid (HM.out.kept hk2 (fun h => h))
    have HK3 := Lib.hid (HK2.out.trans hk2 (fun _ _ h => h))
    have HS : Hid (w1.heap.size < (w1.alloc (.map #[] 0)).heap.size ∧ w.heap.size ≤ w1.heap.size) := Lib.hid ⟨by simp, HK1.out.size⟩
    clear hcf hk2
    go_wp2
    go_ret2
    have hk4 := (Kept.refl NoB w2).alloc (.cells #[.map (some w1.heap.size), .int .i64 0, .int .i64 0, .slice a2 l.length c2] 139)
    refine .inl ⟨HAA.out, w2.heap.size, w1.heap.size, a2, c2, rfl, ⟨heap_alloc_new w2 _, ?_, (fun k hk => hk.2), HM2.out.kept hk4 (fun h => h), (fun v hv => by cases hv), by omega, by omega, by omega, by omega, hl⟩, HK3.out.size, HS.out.2, HK3.out.alloc _⟩
    exact (HCF.out.mono (G := fun k => w.heap.size ≤ k ∧ NL w2.heap.size w1.heap.size k) (fun k hk h => by have h := h.1; exact ⟨by have := HS.out; omega, by omega, by have := HS.out.1; omega⟩)).kept hk4 (fun _ _ _ h => h)
  · have HAA := Lib.hid hA
    rw [show allB l = false from decide_eq_false hA] at HA
    clear h hA
    go_enter Try.func32, Try.ntmps32
    go_wp2_with fail
    refine HA.out.mono ?_
    rintro e w1 ⟨rfl, hk1⟩
    have HK1 := Lib.hid hk1
    clear hk1
    go_wp2
    go_ret2
    exact .inr ⟨HAA.out, rfl, HK1.out⟩
end Go.Proofs.Ytidhaofojcdbaaa
namespace Go.Proofs.Ytidhaofojcdbaaa
open Go.RowKit
set_option linter.unusedVariables false

/-- Is it executed, and more than nothing? -/
def okC (l : List Cf) (v : Vt) : Bool := decide (canC l 0 v.k v.ch v.ep v.nd = 0) && decide (v.k ≠ 0)
def nowC (l : List Cf) (v : Vt) : List Cf := doC l 0 v.k v.ch v.ep v.nd
def cameC (l : List Cf) (v : Vt) : List Cf := if okC l v then [nthC (nowC l v) v.ch.toNat] else []
/-- What comes of commands, one behind the other; what is then. -/
def runC : List Cf → List Vt → List Cf × List Cf
  | l, [] => ([], l)
  | l, v :: r => (cameC l v ++ (runC (nowC l v) r).1, (runC (nowC l v) r).2)
theorem runC_snoc (l : List Cf) (r : List Vt) (v : Vt) : runC l (r ++ [v]) = ((runC l r).1 ++ cameC (runC l r).2 v, nowC (runC l r).2 v) := by
  induction r generalizing l with
  | nil => simp [runC]
  | cons x r ih => simp only [List.cons_append, runC, ih, List.append_assoc]
theorem runC_app (l : List Cf) (r s : List Vt) : runC l (r ++ s) = ((runC l r).1 ++ (runC (runC l r).2 s).1, (runC (runC l r).2 s).2) := by
  induction r generalizing l with
  | nil => simp [runC]
  | cons x r ih => simp only [List.cons_append, runC, ih, List.append_assoc]
theorem nowC_len (l : List Cf) (v : Vt) : (nowC l v).length = l.length := by
  unfold nowC doC
  split
  · rfl
  · split
    · rfl
    · simp
theorem runC_len (l : List Cf) (r : List Vt) : (runC l r).2.length = l.length := by
  induction r generalizing l with
  | nil => rfl
  | cons x r ih => simp only [runC]; rw [ih, nowC_len]
theorem cameC_len (l : List Cf) (v : Vt) : (cameC l v).length ≤ 1 := by unfold cameC; split <;> simp
theorem runC_few (l : List Cf) (r : List Vt) : (runC l r).1.length ≤ r.length := by
  induction r generalizing l with
  | nil => simp [runC]
  | cons x r ih =>
    have h1 := cameC_len l x
    have h2 := ih (nowC l x)
    simp only [runC, List.length_append, List.length_cons]
    omega
/-- What execute leaves. -/
def ExecE (F : Nat → Prop) (g bm : Nat) (L : List Vt) (nx dn : Int) (l : List Cf) (v : Vt) (w : World) (e : Ending) (w' : World) : Prop :=
  ∃ x a' c' N, e = .returned (.tuple #[x, .bool (okC l v)]) ∧ (okC l v = true → CfV w' (NwW N w') x (nthC (nowC l v) v.ch.toNat)) ∧ (okC l v = false → x = cfz) ∧ w.heap.size ≤ N ∧ LogAt w' (if okC l v then (fun k => w.heap.size ≤ k ∧ k < N) else F) g bm L nx (if okC l v then dn + 1 else dn) a' c' (nowC l v) ∧ Kept (LB g bm) w w'
theorem ExecE.no {F : Nat → Prop} {g bm : Nat} {L : List Vt} {nx dn : Int} {l : List Cf} {v : Vt} {w w' : World} {a : Option Addr} {c : Nat} (h : okC l v = false) (hn : nowC l v = l) (hL : LogAt w' F g bm L nx dn a c l) (hk : Kept NoB w w') : ExecE F g bm L nx dn l v w (.returned (.tuple #[cfz, .bool false])) w' := by
  unfold ExecE
  rw [h, hn]
  exact ⟨cfz, a, c, w.heap.size, rfl, (fun h => by cases h), (fun _ => rfl), Nat.le_refl _, hL, hk.mono (fun _ _ h => h.elim)⟩
theorem ExecE.yes {F : Nat → Prop} {g bm : Nat} {L : List Vt} {nx dn : Int} {l : List Cf} {v : Vt} {w w' : World} {a : Option Addr} {c : Nat} {x : Value} {N : Nat} (h : okC l v = true) (hV : CfV w' (NwW N w') x (nthC (nowC l v) v.ch.toNat)) (hN : w.heap.size ≤ N) (hL : LogAt w' (fun k => w.heap.size ≤ k ∧ k < N) g bm L nx (dn + 1) a c (nowC l v)) (hk : Kept (LB g bm) w w') : ExecE F g bm L nx dn l v w (.returned (.tuple #[x, .bool true])) w' := by
  unfold ExecE
  rw [h]
  exact ⟨x, a, c, N, rfl, (fun _ => hV), (fun h => by cases h), hN, hL, hk⟩
set_option maxRecDepth 100000 in
set_option maxHeartbeats 2000000 in
theorem LExec_any (w : World) (F : Nat → Prop) (g bm : Nat) (L : List Vt) (nx dn : Int) (a : Option Addr) (c : Nat) (l : List Cf) (v : Vt) (h : LogAt w F g bm L nx dn a c l) (hx : Chk v.k v.ch v.ep v.nd 0) (hep : 0 ≤ v.ep) (hd : dn < nx) :
    Calls Try.prog 113 #[.pointer (some ⟨g, 0, none⟩), vcv v] w (ExecE F g bm L nx dn l v w) := by
  obtain ⟨vs, vb, k, ch, ep, nd⟩ := v
  simp only at hx hep
  rw [show vcv ⟨vs, vb, k, ch, ep, nd⟩ = .agg #[.int .i64 k, .int .i64 ch, .int .u64 ep, .int .i64 nd] from rfl]
  have H0 := Lib.hid h
  have hl := h.few
  have hn1 := h.n1
  have hd0 := h.d0
  have hgl := h.lt
  have h1 := heap_alloc_new w (.cells #[.int .i64 k, .int .i64 ch, .int .u64 ep, .int .i64 nd] 39)
  have h2 := blkA_alloc h1 (.cells #[.int .i64 0, .int .u64 0, .slice none 0 0, .bool false, .int .i64 0] 84)
  have h3 := heap_alloc_new (w.alloc (.cells #[.int .i64 k, .int .i64 ch, .int .u64 ep, .int .i64 nd] 39)) (.cells #[.int .i64 0, .int .u64 0, .slice none 0 0, .bool false, .int .i64 0] 84)
  have hz : (w.alloc (.cells #[.int .i64 k, .int .i64 ch, .int .u64 ep, .int .i64 nd] 39)).heap.size = w.heap.size + 1 := by simp
  rw [hz] at h3
  obtain ⟨W, hW⟩ : ∃ W, W = (w.alloc (.cells #[.int .i64 k, .int .i64 ch, .int .u64 ep, .int .i64 nd] 39)).alloc (.cells #[.int .i64 0, .int .u64 0, .slice none 0 0, .bool false, .int .i64 0] 84) := ⟨_, rfl⟩
  have hk : Kept NoB w W := by rw [hW]; exact ((Kept.refl _ _).alloc _).alloc _
  have HSZ : Hid (W.heap.size = w.heap.size + 2) := Lib.hid (by rw [hW]; simp)
  have HWW := Lib.hid hW
  rw [← hW] at h2 h3
  have HCX := Lib.hid h2
  have HRX := Lib.hid h3
  have HK := Lib.hid hk
  have HL := Lib.hid (h.no hk)
  clear h h1 h2 h3 hz hW hk
  obtain ⟨M, hM⟩ : ∃ M, M = nowC l ⟨vs, vb, k, ch, ep, nd⟩ := ⟨_, rfl⟩
  have HM := Lib.hid hM
  have hml : M.length = l.length := by rw [hM, nowC_len]
  have HDO : Hid (∀ w', Kept NoB W w' → Calls Try.prog 132 #[.slice a l.length c, .agg #[.int .i64 k, .int .i64 ch, .int .u64 ep, .int .i64 nd]] w' fun e w'' => ∃ xa xc, e = .returned (.tuple #[.slice xa l.length xc, .bool (decide (canC l 0 k ch ep nd = 0))]) ∧ CfsAt w'' (fun i => W.heap.size ≤ i) (.slice xa l.length xc) M ∧ Kept NoB w' w'') := Lib.hid (fun w' hk => by
    refine (Do_any _ l 0 k ch ep nd F w' (HL.out.no hk).cfs hl hx hep).mono fun e w'' ⟨u, h1, h2, h3⟩ => ?_
    obtain ⟨xa, xc, rfl, _⟩ := id h2
    have hlen : (doC l 0 k ch ep nd).length = l.length := by rw [← hml, hM]; rfl
    rw [hlen] at h1 h2
    refine ⟨xa, xc, h1, ?_, h3⟩
    rw [hM]
    exact h2.mono (fun i _ hi => Nat.le_trans hk.size hi))
  have HTEN : Hid (∀ w', Kept NoB W w' → w'.cell? ⟨g, 3, none⟩ = some (.slice a l.length c) ∧ w'.cell? ⟨w.heap.size, 0, none⟩ = some (.int .i64 k) ∧ w'.cell? ⟨w.heap.size, 1, none⟩ = some (.int .i64 ch) ∧ w'.cell? ⟨w.heap.size, 2, none⟩ = some (.int .u64 ep) ∧ w'.cell? ⟨w.heap.size, 3, none⟩ = some (.int .i64 nd)) := Lib.hid (fun w' hk => by
    obtain ⟨_, _, _, c3⟩ := (HL.out.no hk).c
    obtain ⟨d0, d1, d2, d3⟩ := cells4c (hk.heap (fun h => h) HCX.out)
    exact ⟨c3, d0, d1, d2, d3⟩)
  have HKe := Lib.hid (Kept.refl NoB W).drew
  have HT := Lib.hid (HTEN.out _ HKe.out)
  have HOK : Hid (okC l ⟨vs, vb, k, ch, ep, nd⟩ = (decide (canC l 0 k ch ep nd = 0) && decide (k ≠ 0))) := Lib.hid rfl
  clear hM
  by_cases hc : canC l 0 k ch ep nd = 0
  · rw [decide_eq_true hc] at HDO HOK
    by_cases hk0 : k = 0
    · subst hk0
      have HOF : Hid (okC l ⟨vs, vb, 0, ch, ep, nd⟩ = false) := Lib.hid (by rw [HOK.out]; rfl)
      have HML : Hid (M = l) := Lib.hid (by rw [HM.out]; unfold nowC; rw [doC_zero])
      clear hc hml hx hep hd
      go_enter Try.func113, Try.ntmps113
      go_wp2_with fail
      rw [← HWW.out]
      go_region_held3 (fun w' => w'.cell? ⟨g, 3, none⟩ = some (.slice a l.length c) ∧ w'.cell? ⟨w.heap.size, 0, none⟩ = some (.int .i64 0) ∧ w'.cell? ⟨w.heap.size, 1, none⟩ = some (.int .i64 ch) ∧ w'.cell? ⟨w.heap.size, 2, none⟩ = some (.int .u64 ep) ∧ w'.cell? ⟨w.heap.size, 3, none⟩ = some (.int .i64 nd))
        (with_reducible exact HT.out)
        ((go_at_call 132; (with_reducible refine (HDO.out _ HKe.out).mono ?_); rintro e w1 ⟨xa, xc, rfl, hx1, hk1⟩; have HX := Lib.hid hx1; replace HKe := Lib.hid (HKe.out.trans hk1 (fun _ _ h => h)); replace HT := Lib.hid (HTEN.out _ HKe.out); clear hk1 hx1))
      all_goals
        have HL1 := Lib.hid (HL.out.no HKe.out)
        have HR1 := Lib.hid (HKe.out.heap (fun h => h) HRX.out)
        have HK1 := Lib.hid (HK.out.trans HKe.out (fun _ _ h => h))
        obtain ⟨_, d0, d1, d2, d3⟩ := HT.out
        obtain ⟨r0, r1, r2, r3, r4⟩ := cells5 HR1.out
        obtain ⟨f0, f1, f2, f3, f4⟩ := frz5 HR1.out
        go_wp2
        have hF := five_at HR1.out (.int .i64 0) (.int .u64 0) (.slice none 0 0) (.bool false) (.int .i64 0)
        have hK := HK1.out.five (b := w.heap.size + 1) (.inr (Nat.le_add_right _ _)) (.int .i64 0) (.int .u64 0) (.slice none 0 0) (.bool false) (.int .i64 0)
        have hLE := H0.out.no hK
        clear r0 r1 r2 r3 r4 f0 f1 f2 f3 f4 d0 d1 d2 d3
        obtain ⟨r0, r1, r2, r3, r4⟩ := cells5 hF
        clear hF
        unfold five at r0 r1 r2 r3 r4 hK hLE
        generalize hW : World.setCell _ _ _ = W2 at r0 r1 r2 r3 r4 hK hLE ⊢
        exact bodyPost_ret (v := .tuple #[.agg #[.int .i64 0, .int .u64 0, .slice none 0 0, .bool false, .int .i64 0], .bool false]) (by simp [results, Try.results113, go_sem, r0, r1, r2, r3, r4]) rfl (ExecE.no HOF.out (HM.out ▸ HML.out) hLE hK)
    · have hkb : (k == 0) = false := by simpa using hk0
      have HOF : Hid (okC l ⟨vs, vb, k, ch, ep, nd⟩ = true) := Lib.hid (by rw [HOK.out]; simpa using hk0)
      obtain ⟨_, _, hcs⟩ := can_ok hc
      have hV := Chk.ok.1 hx
      unfold Vld at hV
      have hch0 : 0 ≤ ch := by omega
      have hchl : ch < l.length := by
        rcases hcs with h | h
        · exact absurd h hk0
        · exact h.2.1
      obtain ⟨j, rfl⟩ := Int.eq_ofNat_of_zero_le hch0
      have hj : j < l.length := by omega
      have HJ : Hid (((j : Int)).toNat = j) := Lib.hid (by omega)
      obtain ⟨D, hD⟩ : ∃ D, D = nthC M j := ⟨_, rfl⟩
      have HD := Lib.hid hD
      clear hc hx hep hcs hV hch0 hchl hk0 hD
      go_enter Try.func113, Try.ntmps113
      go_wp2_with fail
      rw [← HWW.out]
      go_region_held3 (fun w' => w'.cell? ⟨g, 3, none⟩ = some (.slice a l.length c) ∧ w'.cell? ⟨w.heap.size, 0, none⟩ = some (.int .i64 k) ∧ w'.cell? ⟨w.heap.size, 1, none⟩ = some (.int .i64 (j : Int)) ∧ w'.cell? ⟨w.heap.size, 2, none⟩ = some (.int .u64 ep) ∧ w'.cell? ⟨w.heap.size, 3, none⟩ = some (.int .i64 nd))
        (with_reducible exact HT.out)
        ((go_at_call 132; (with_reducible refine (HDO.out _ HKe.out).mono ?_); rintro e w1 ⟨xa, xc, rfl, hx1, hk1⟩; have HX := Lib.hid hx1; replace HKe := Lib.hid (HKe.out.trans hk1 (fun _ _ h => h)); replace HT := Lib.hid (HTEN.out _ HKe.out); clear hk1 hx1))
      all_goals
        have HL1 := Lib.hid (HL.out.no HKe.out)
        have HR1 := Lib.hid (HKe.out.heap (fun h => h) HRX.out)
        have HC1 := Lib.hid (HKe.out.heap (fun h => h) HCX.out)
        have HK1 := Lib.hid (HK.out.trans HKe.out (fun _ _ h => h))
        have HS1 : Hid (W.heap.size ≤ w1.heap.size) := Lib.hid HKe.out.size
        clear HT
        obtain ⟨d0, d1, d2, d3⟩ := cells4c HC1.out
        obtain ⟨c0, c1, c2, c3⟩ := HL1.out.c
        have f2 := HL1.out.f 2
        have f3 := HL1.out.f 3
        have hq1 : ¬ g = w.heap.size := by omega
        have hq2 : ¬ w.heap.size = g := by omega
        go_upto_region 6 with fail
        have hset := (Kept.refl (fun i => i = g) w1).setCell (p := ⟨g, 3, none⟩) (.inl rfl) (.slice xa l.length xc) |>.setCell (p := ⟨g, 2, none⟩) (.inl rfl) (.int .i64 (dn + 1))
        have hrow : ((w1.setCell ⟨g, 3, none⟩ (.slice xa l.length xc)).setCell ⟨g, 2, none⟩ (.int .i64 (dn + 1))).heap[g]? = some (.cells #[.map (some bm), .int .i64 nx, .int .i64 (dn + 1), .slice xa l.length xc] 139 (0, 0)) := blkA_set (blkA_set HL1.out.cells 3 (.slice xa l.length xc)) 2 (.int .i64 (dn + 1))
        have HLN : Hid (LogAt ((w1.setCell ⟨g, 3, none⟩ (.slice xa l.length xc)).setCell ⟨g, 2, none⟩ (.int .i64 (dn + 1))) (fun i => W.heap.size ≤ i) g bm L nx (dn + 1) xa xc M) := Lib.hid ⟨by rw [hml]; exact hrow, by
          rw [hml]
          exact (HX.out.kept hset (fun i _ h e => by have e : i = g := e; have := HSZ.out; omega)), (fun i h => by have := HSZ.out; exact ⟨by omega, by omega⟩), HL1.out.map.kept hset (fun e => hgl.2.2 e), HL1.out.ok, HL1.out.n0, hn1, by omega, by omega, by rw [hml]; exact hl⟩
        have HC2 := Lib.hid (hset.heap (fun e => hq2 e) HC1.out)
        have HR2 := Lib.hid (hset.heap (fun e => by have e : w.heap.size + 1 = g := e; omega) HR1.out)
        have HK2 : Hid (Kept (LB g bm) w ((w1.setCell ⟨g, 3, none⟩ (.slice xa l.length xc)).setCell ⟨g, 2, none⟩ (.int .i64 (dn + 1)))) := Lib.hid (((HK1.out.mono (T := LB g bm) (fun _ _ h => h.elim)).setCell (p := ⟨g, 3, none⟩) (.inl (.inl rfl)) _).setCell (p := ⟨g, 2, none⟩) (.inl (.inl rfl)) _)
        have HS2 : Hid (W.heap.size ≤ ((w1.setCell ⟨g, 3, none⟩ (.slice xa l.length xc)).setCell ⟨g, 2, none⟩ (.int .i64 (dn + 1))).heap.size) := Lib.hid (by have := HS1.out; have := hset.size; omega)
        obtain ⟨V, hV⟩ : ∃ V, V = (w1.setCell ⟨g, 3, none⟩ (.slice xa l.length xc)).setCell ⟨g, 2, none⟩ (.int .i64 (dn + 1)) := ⟨_, rfl⟩
        have HSET : Hid (Kept (fun i => i = g) w1 V) := Lib.hid (by rw [hV]; exact hset)
        have HROW : Hid (V.heap[g]? = some (.cells #[.map (some bm), .int .i64 nx, .int .i64 (dn + 1), .slice xa l.length xc] 139 (0, 0))) := Lib.hid (by rw [hV]; exact hrow)
        rw [← hV] at HLN HC2 HR2 HK2 HS2 ⊢
        clear hV hset hrow c0 c1 c2 c3 f2 f3 d0 d1 d2 d3
        obtain ⟨d0, d1, d2, d3⟩ := cells4c HC2.out
        go_wp2_with fail
        have HCI := Lib.hid (LConf_in V _ g bm L nx (dn + 1) xa xc M HLN.out j (by rw [hml]; exact hj))
        rw [← HD.out] at HCI
        refine HCI.out.mono ?_
        rintro e w4 ⟨y, rfl, ⟨u, rfl, hn, hb⟩, hk4⟩
        obtain ⟨ua, uc, rfl, _⟩ := id hn
        have HN4 := Lib.hid hn
        have HB4 := Lib.hid hb
        have HK34 := Lib.hid hk4
        have HR4 := Lib.hid (hk4.heap (fun h => h) HR2.out)
        have HK4 := Lib.hid (HK2.out.trans hk4 (fun _ _ h => h.elim))
        clear hn hb hk4 d0 d1 d2 d3
        obtain ⟨dch, dep, dns, dfr, djn⟩ := D
        simp only at HN4 HB4
        obtain ⟨r0, r1, r2, r3, r4⟩ := cells5 HR4.out
        obtain ⟨f0, f1, f2, f3, f4⟩ := frz5 HR4.out
        go_wp2
        have hF := five_at HR4.out (.int .i64 dch) (.int .u64 dep) (.slice ua dns.length uc) (.bool dfr) (.int .i64 djn)
        have h5 := (Kept.refl (fun i => i = w.heap.size + 1) w4).five (.inl rfl) (.int .i64 dch) (.int .u64 dep) (.slice ua dns.length uc) (.bool dfr) (.int .i64 djn)
        have hK := HK4.out.five (b := w.heap.size + 1) (.inr (Nat.le_add_right _ _)) (.int .i64 dch) (.int .u64 dep) (.slice ua dns.length uc) (.bool dfr) (.int .i64 djn)
        have hN := HN4.out.keptW h5 (fun i h e => by have e : i = w.heap.size + 1 := e; have := HS2.out; have := HSZ.out; omega)
        have HWV : Hid (w.heap.size ≤ V.heap.size ∧ V.heap.size ≤ w4.heap.size) := Lib.hid ⟨by have := HS2.out; have := HSZ.out; omega, HK34.out.size⟩
        have hall := ((HSET.out.mono (T := fun i => i = g ∨ i = w.heap.size + 1) (fun _ _ h => .inl h)).trans HK34.out (fun _ _ h => h.elim)).trans h5 (fun _ _ h => .inr h)
        have hmap := (HL1.out.map.kept hall (fun e => by rcases e with e | e <;> omega))
        have hcf := ((HX.out.mono (G := fun i => W.heap.size ≤ i ∧ i < w1.heap.size) (fun i hi h => ⟨h, hi⟩)).kept hall (fun i _ h e => by have := HSZ.out; rcases e with e | e <;> omega)).mono (G := fun i => (w.heap.size ≤ i ∧ i < V.heap.size) ∧ NL g bm i) (fun i _ h => by have := HSZ.out; have := HSET.out.size; exact ⟨⟨by omega, by omega⟩, by omega, by omega⟩)
        have hrow := h5.heap (fun e => by have e : g = w.heap.size + 1 := e; omega) (HK34.out.heap (fun h => h) HROW.out)
        clear r0 r1 r2 r3 r4 f0 f1 f2 f3 f4
        obtain ⟨r0, r1, r2, r3, r4⟩ := cells5 hF
        clear hF h5 hall
        unfold five at r0 r1 r2 r3 r4 hK hN hmap hcf hrow
        generalize hW : World.setCell _ _ _ = W2 at r0 r1 r2 r3 r4 hK hN hmap hcf hrow ⊢
        have hLE : LogAt W2 (fun i => w.heap.size ≤ i ∧ i < V.heap.size) g bm L nx (dn + 1) xa xc M := ⟨by rw [hml]; exact hrow, by rw [hml]; exact hcf.mono (fun i _ h => h.1), (fun i h => ⟨by omega, by omega⟩), hmap, HL1.out.ok, HL1.out.n0, hn1, by omega, by omega, by rw [hml]; exact hl⟩
        exact bodyPost_ret (v := .tuple #[.agg #[.int .i64 dch, .int .u64 dep, .slice ua dns.length uc, .bool dfr, .int .i64 djn], .bool true]) (by simp [results, Try.results113, go_sem, r0, r1, r2, r3, r4]) rfl
          (ExecE.yes (N := V.heap.size) HOF.out (by rw [← HM.out]; simp only; rw [HJ.out, ← HD.out]; exact ⟨_, rfl, hN, HB4.out⟩) HWV.out.1 (HM.out ▸ hLE) hK)
  · have hcb : decide (canC l 0 k ch ep nd = 0) = false := decide_eq_false hc
    have HOF : Hid (okC l ⟨vs, vb, k, ch, ep, nd⟩ = false) := Lib.hid (by rw [HOK.out, hcb]; rfl)
    rw [hcb] at HDO
    have HML : Hid (M = l) := Lib.hid (by rw [HM.out]; exact doC_no hc)
    clear hc hcb hml hx hep hd
    go_enter Try.func113, Try.ntmps113
    go_wp2_with fail
    rw [← HWW.out]
    go_region_held3 (fun w' => w'.cell? ⟨g, 3, none⟩ = some (.slice a l.length c) ∧ w'.cell? ⟨w.heap.size, 0, none⟩ = some (.int .i64 k) ∧ w'.cell? ⟨w.heap.size, 1, none⟩ = some (.int .i64 ch) ∧ w'.cell? ⟨w.heap.size, 2, none⟩ = some (.int .u64 ep) ∧ w'.cell? ⟨w.heap.size, 3, none⟩ = some (.int .i64 nd))
      (with_reducible exact HT.out)
      ((go_at_call 132; (with_reducible refine (HDO.out _ HKe.out).mono ?_); rintro e w1 ⟨xa, xc, rfl, hx1, hk1⟩; have HX := Lib.hid hx1; replace HKe := Lib.hid (HKe.out.trans hk1 (fun _ _ h => h)); replace HT := Lib.hid (HTEN.out _ HKe.out); clear hk1 hx1))
    all_goals
      have HL1 := Lib.hid (HL.out.no HKe.out)
      have HR1 := Lib.hid (HKe.out.heap (fun h => h) HRX.out)
      have HK1 := Lib.hid (HK.out.trans HKe.out (fun _ _ h => h))
      obtain ⟨_, d0, d1, d2, d3⟩ := HT.out
      obtain ⟨r0, r1, r2, r3, r4⟩ := cells5 HR1.out
      obtain ⟨f0, f1, f2, f3, f4⟩ := frz5 HR1.out
      go_wp2
      have hF := five_at HR1.out (.int .i64 0) (.int .u64 0) (.slice none 0 0) (.bool false) (.int .i64 0)
      have hK := HK1.out.five (b := w.heap.size + 1) (.inr (Nat.le_add_right _ _)) (.int .i64 0) (.int .u64 0) (.slice none 0 0) (.bool false) (.int .i64 0)
      have hLE := H0.out.no hK
      clear r0 r1 r2 r3 r4 f0 f1 f2 f3 f4 d0 d1 d2 d3
      obtain ⟨r0, r1, r2, r3, r4⟩ := cells5 hF
      clear hF
      unfold five at r0 r1 r2 r3 r4 hK hLE
      generalize hW : World.setCell _ _ _ = W2 at r0 r1 r2 r3 r4 hK hLE ⊢
      exact bodyPost_ret (v := .tuple #[.agg #[.int .i64 0, .int .u64 0, .slice none 0 0, .bool false, .int .i64 0], .bool false]) (by simp [results, Try.results113, go_sem, r0, r1, r2, r3, r4]) rfl (ExecE.no HOF.out (HM.out ▸ HML.out) hLE hK)
end Go.Proofs.Ytidhaofojcdbaaa
namespace Go.Proofs.Ytidhaofojcdbaaa
open Go.RowKit
set_option linter.unusedVariables false

/-- What apply leaves. -/
def ApplyE (F : Nat → Prop) (g bm : Nat) (L : List Vt) (nx dn : Int) (l : List Cf) (w : World) (e : Ending) (w' : World) : Prop :=
  ∃ (vs : List Vt) (oa : Option Addr) (oc : Nat) (a : Option Addr) (c : Nat) (G : Nat → Prop), e = .returned (.slice oa (runC l vs).1.length oc) ∧ CfsAt w' (fun k => w.heap.size ≤ k ∧ Wr w' k ∧ ¬ G k) (.slice oa (runC l vs).1.length oc) (runC l vs).1 ∧
    (∀ i (hi : i < vs.length), atV L (nx + i) = some vs[i]) ∧ atV L (nx + vs.length) = none ∧ LogAt w' (fun k => G k ∧ (F k ∨ w.heap.size ≤ k)) g bm L (nx + vs.length) (dn + (runC l vs).1.length) a c (runC l vs).2 ∧ Kept (LB g bm) w w'
theorem KOwn.wr {B : Nat} {w : World} {v : Value} {ps : List (Cf × Value)} (h : KOwn B w v ps) {k : Nat} (hk : v.ownBlock = some k) : Wr w k := by
  rcases h.2 with ⟨rfl, _⟩ | ⟨r, cap, cur, rfl, hb, hr, _⟩
  · cases hk
  · injection hk with hk
    subst hk
    exact ⟨cur, _, hr⟩
theorem LogAt.with_ {w : World} {F G : Nat → Prop} {g bm : Nat} {L : List Vt} {nx dn : Int} {a : Option Addr} {c : Nat} {l : List Cf} (h : LogAt w F g bm L nx dn a c l) (hG : ∀ k, F k → G k) : LogAt w (fun k => F k ∧ G k) g bm L nx dn a c l :=
  ⟨h.cells, h.cfs.mono (fun k hk hf => ⟨hf, hG k hf⟩), (fun k hk => h.sub k hk.1), h.map, h.ok, h.n0, h.n1, h.d0, h.d1, h.few⟩
structure ApAt (w : World) (F : Nat → Prop) (g bm : Nat) (L : List Vt) (nx dn : Int) (l : List Cf) (vs : List Vt) (ps : List (Cf × Value)) (o3 : Value) (b4 : Nat) (a : Option Addr) (c : Nat) (G : Nat → Prop) (wr : World) : Prop where
  own : KOwn w.heap.size wr o3 ps
  out : ps.map Prod.fst = (runC l vs).1
  nod : ∀ p ∈ ps, NSl wr (fun k => (w.heap.size ≤ k ∧ o3.ownBlock ≠ some k) ∧ Wr wr k ∧ ¬ G k) p.2 p.1.ns ∧ 0 ≤ p.1.ep ∧ p.1.ep ≤ topE ∧ p.1.ns.length ≤ 1000
  row : wr.heap[b4]? = some (.cells #[.int .i64 ((atV L (nx + vs.length)).getD vt0).k, .int .i64 ((atV L (nx + vs.length)).getD vt0).ch, .int .u64 ((atV L (nx + vs.length)).getD vt0).ep, .int .i64 ((atV L (nx + vs.length)).getD vt0).nd] 39 (0, 0))
  new : w.heap.size ≤ b4
  at_ : ∀ i (hi : i < vs.length), atV L (nx + i) = some vs[i]
  log : LogAt wr G g bm L (nx + vs.length) (dn + (runC l vs).1.length) a c (runC l vs).2
  apart : ∀ k, o3.ownBlock = some k → ¬ G k
  gsub : ∀ k, G k → F k ∨ w.heap.size ≤ k
  kept : Kept (LB g bm) w wr
def ApplyRel (w : World) (F : Nat → Prop) (g bm : Nat) (L : List Vt) (nx dn : Int) (l : List Cf) (o3 s4 s5 : Value) (wr : World) : Prop :=
  ∃ vs ps b4 a c G, s4 = .pointer (some ⟨b4, 0, none⟩) ∧ s5 = .bool (atV L (nx + vs.length)).isSome ∧ ApAt w F g bm L nx dn l vs ps o3 b4 a c G wr
def mNext (g : Nat) (wr : World) : Nat := match wr.cell? ⟨g, 1, none⟩ with
  | some v => (512 - RowKit.intOf v).toNat
  | none => 0
theorem mNext_at {g : Nat} {wr : World} {x : Int} (h : wr.cell? ⟨g, 1, none⟩ = some (.int .i64 x)) : mNext g wr = (512 - x).toNat := by unfold mNext; rw [h]; rfl
theorem LogAt.cut {w : World} {F : Nat → Prop} {g bm : Nat} {L : List Vt} {nx dn : Int} {a : Option Addr} {c : Nat} {l : List Cf} (h : LogAt w F g bm L nx dn a c l) : LogAt w (fun k => F k ∧ k < w.heap.size) g bm L nx dn a c l :=
  ⟨h.cells, h.cfs.mono (fun k hk hf => ⟨hf, hk⟩), (fun k hk => h.sub k hk.1), h.map, h.ok, h.n0, h.n1, h.d0, h.d1, h.few⟩
theorem ApAt.no {w : World} {F : Nat → Prop} {g bm : Nat} {L : List Vt} {nx dn : Int} {l : List Cf} {vs : List Vt} {ps : List (Cf × Value)} {o3 : Value} {a : Option Addr} {c : Nat} {G : Nat → Prop} {w6 w9 : World} {b5 : Nat} {N d6 : Int} {M : List Cf} (hk : Kept NoB w6 w9)
    (own : KOwn w.heap.size w6 o3 ps) (out : ps.map Prod.fst = (runC l vs).1) (nod : ∀ p ∈ ps, NSl w6 (fun k => (w.heap.size ≤ k ∧ o3.ownBlock ≠ some k) ∧ Wr w6 k ∧ ¬ G k) p.2 p.1.ns ∧ 0 ≤ p.1.ep ∧ p.1.ep ≤ topE ∧ p.1.ns.length ≤ 1000)
    (hN : nx + (vs.length : Int) = N) (hd : dn + ((runC l vs).1.length : Int) = d6) (hM : (runC l vs).2 = M) (row : w9.heap[b5]? = some (.cells #[.int .i64 ((atV L N).getD vt0).k, .int .i64 ((atV L N).getD vt0).ch, .int .u64 ((atV L N).getD vt0).ep, .int .i64 ((atV L N).getD vt0).nd] 39 (0, 0)))
    (hb : w.heap.size ≤ b5) (hat : ∀ i (hi : i < vs.length), atV L (nx + i) = some vs[i]) (log : LogAt w6 G g bm L N d6 a c M) (apart : ∀ k, o3.ownBlock = some k → ¬ G k) (gsub : ∀ k, G k → F k ∨ w.heap.size ≤ k) (kept : Kept (LB g bm) w w6) : ApAt w F g bm L nx dn l vs ps o3 b5 a c G w9 := by
  subst hN hd hM
  exact ⟨own.kept hk (fun _ _ h => h), out, fun p hp => ⟨((nod p hp).1.kept hk (fun _ _ _ h => h)).mono (fun k _ h => ⟨h.1, h.2.1.kept hk (fun h => h), h.2.2⟩), (nod p hp).2⟩, row, hb, hat, log.no hk, apart, gsub, kept.trans hk (fun _ _ h => h.elim)⟩
/-- Four cells, stored one by one. -/
def four (w : World) (b : Nat) (x0 x1 x2 x3 : Value) : World := (((w.setCell ⟨b, 0, none⟩ x0).setCell ⟨b, 1, none⟩ x1).setCell ⟨b, 2, none⟩ x2).setCell ⟨b, 3, none⟩ x3
theorem four_at {w : World} {b : Nat} {y0 y1 y2 y3 : Value} (h : w.heap[b]? = some (.cells #[y0, y1, y2, y3] 39 (0, 0))) (x0 x1 x2 x3 : Value) : (four w b x0 x1 x2 x3).heap[b]? = some (.cells #[x0, x1, x2, x3] 39 (0, 0)) :=
  bset5 (bset5 (bset5 (bset5 h 0 x0) 1 x1) 2 x2) 3 x3
theorem Kept.four {S : Nat → Prop} {a w : World} (h : Kept S a w) {b : Nat} (hb : S b ∨ a.heap.size ≤ b) (x0 x1 x2 x3 : Value) : Kept S a (Go.Proofs.Ytidhaofojcdbaaa.four w b x0 x1 x2 x3) :=
  (((h.setCell (p := ⟨b, 0, none⟩) hb x0).setCell (p := ⟨b, 1, none⟩) hb x1).setCell (p := ⟨b, 2, none⟩) hb x2).setCell (p := ⟨b, 3, none⟩) hb x3
theorem frz4 {w : World} {b : Nat} {cs : Array Value} {t : TypeId} (h : w.heap[b]? = some (.cells cs t (0, 0))) : w.frozen? ⟨b, 0, none⟩ = false ∧ w.frozen? ⟨b, 1, none⟩ = false ∧ w.frozen? ⟨b, 2, none⟩ = false ∧ w.frozen? ⟨b, 3, none⟩ = false := by
  refine ⟨?_, ?_, ?_, ?_⟩ <;> simp [World.frozen?, h]
set_option maxRecDepth 100000 in
set_option maxHeartbeats 4000000 in
theorem LApply_any (w : World) (F : Nat → Prop) (g bm : Nat) (L : List Vt) (nx dn : Int) (a : Option Addr) (c : Nat) (l : List Cf) (h : LogAt w F g bm L nx dn a c l) :
    Calls Try.prog 80 #[.pointer (some ⟨g, 0, none⟩)] w (ApplyE F g bm L nx dn l w) := by
  have hn0 := h.n0
  have hn1 := h.n1
  have hgl := h.lt
  have HL := Lib.hid h
  have hwf : (Lit.int .i64 nx).wf = true := WalkArith.wf_i64 (by omega)
  obtain ⟨c0, c1, c2, c3⟩ := h.c
  have HAT := Lib.hid (LAt_any w F g bm nx L nx dn a c l h hwf)
  obtain ⟨z, hz⟩ : ∃ z, z = (atV L nx).isSome := ⟨_, rfl⟩
  obtain ⟨y, hy⟩ : ∃ y, y = (atV L nx).getD vt0 := ⟨_, rfl⟩
  rw [← hz, ← hy] at HAT
  have HZ := Lib.hid hz
  have HY := Lib.hid hy
  clear h hwf hz hy
  obtain ⟨y0, y1, y2, y3, y4, y5⟩ := y
  rw [show vcv ⟨y0, y1, y2, y3, y4, y5⟩ = .agg #[.int .i64 y2, .int .i64 y3, .int .u64 y4, .int .i64 y5] from rfl] at HAT
  go_enter Try.func80, Try.ntmps80
  go_wp2_with fail
  refine HAT.out.mono ?_
  rintro e w1 ⟨rfl, hk1⟩
  have HK1 := Lib.hid hk1
  clear hk1 c0 c1 c2 c3
  go_wp2_with fail
  go_loopw [3, 4, 5] (ApplyRel w F g bm L nx dn l) (fun _ _ _ wr => mNext g wr)
  case atStart =>
    have hk2 := HK1.out.alloc (.cells #[.int .i64 y2, .int .i64 y3, .int .u64 y4, .int .i64 y5] 39)
    have hL2 := HL.out.no hk2
    refine ⟨[], [], w1.heap.size, a, c, F, rfl, by rw [HZ.out]; simp, ⟨KOwn.nil _ _, rfl, (fun p hp => by cases hp), ?_, HK1.out.size, (fun i hi => by simp at hi), ?_, (fun k hk => by cases hk), (fun k hk => .inl hk), hk2.mono (fun _ _ h => h.elim)⟩⟩
    · have := heap_alloc_new w1 (.cells #[.int .i64 y2, .int .i64 y3, .int .u64 y4, .int .i64 y5] 39)
      simp only [List.length_nil, Int.natCast_zero, Int.add_zero]
      rw [← HY.out]
      exact this
    · simpa [runC] using hL2
  case round =>
    obtain ⟨vs, ps, b4, a4, c4, G, rfl, rfl, hap⟩ := hrel
    have HAP := Lib.hid hap
    clear hap
    cases hat : atV L (nx + vs.length) with
    | none =>
      have HAT2 := Lib.hid hat
      clear hat
      obtain ⟨oa, oc, rfl⟩ := HAP.out.own.form
      have hfin : ApplyE F g bm L nx dn l w (.returned (.slice oa ps.length oc)) wr := by
        have hl : ps.length = (runC l vs).1.length := by rw [← HAP.out.out, List.length_map]
        have hcf := HAP.out.own.cfs (F := fun k => w.heap.size ≤ k ∧ Wr wr k ∧ ¬ G k) (fun k hk => ⟨(World.ownsRow.lt HAP.out.own k hk).1, HAP.out.own.wr hk, HAP.out.apart k hk⟩) (fun p hp => ⟨(HAP.out.nod p hp).1.mono (fun _ _ h => ⟨h.1.1, h.2⟩), (HAP.out.nod p hp).2⟩)
        rw [HAP.out.out] at hcf
        rw [hl] at hcf ⊢
        exact ⟨vs, oa, oc, a4, c4, G, rfl, hcf, HAP.out.at_, HAT2.out, HAP.out.log.with_ HAP.out.gsub, HAP.out.kept⟩
      have HF := Lib.hid hfin
      clear hfin
      have hb : (none : Option Vt).isSome = false := rfl
      go_wp2
      go_ret
      exact HF.out
    | some v =>
      have hb : (some v).isSome = true := rfl
      obtain ⟨hvs, hvm⟩ := atV_slot hat
      obtain ⟨hvo, hvx⟩ := HAP.out.log.ok v hvm
      unfold VtOk at hvo
      have hrow := HAP.out.row
      rw [hat] at hrow
      have hrow : wr.heap[b4]? = some (.cells #[.int .i64 v.k, .int .i64 v.ch, .int .u64 v.ep, .int .i64 v.nd] 39 (0, 0)) := hrow
      have HROW := Lib.hid hrow
      have hlen : nx + vs.length < 512 := by omega
      have hlen0 : 0 ≤ nx + (vs.length : Int) := by omega
      have hep0 := hvo.2.2.2.2.1
      have HNEXT : Hid (∀ i (hi : i < (vs ++ [v]).length), atV L (nx + i) = some (vs ++ [v])[i]) := Lib.hid (fun i hi => by
        rw [List.length_append, List.length_cons, List.length_nil] at hi
        by_cases e : i < vs.length
        · rw [List.getElem_append_left e]
          exact HAP.out.at_ i e
        · obtain rfl : i = vs.length := by omega
          rw [hat]
          simp)
      obtain ⟨oa, oc, rfl⟩ := HAP.out.own.form
      have HBASE := Lib.hid (fun k hk => (World.ownsRow.lt HAP.out.own k hk))
      obtain ⟨N, hN⟩ : ∃ N : Int, N = nx + (vs.length : Int) := ⟨_, rfl⟩
      obtain ⟨lv, hlv⟩ : ∃ x, x = (runC l vs).2 := ⟨_, rfl⟩
      obtain ⟨dv, hdv⟩ : ∃ x, x = dn + ((runC l vs).1.length : Int) := ⟨_, rfl⟩
      have hlog := HAP.out.log
      rw [← hN, ← hlv, ← hdv] at hlog
      rw [← hN] at hlen hlen0
      have HN := Lib.hid hN
      have HLV := Lib.hid hlv
      have HDV := Lib.hid hdv
      have HS := Lib.hid (runC_snoc l vs v)
      rw [← hlv] at HS
      have HLOG := Lib.hid hlog
      have hdn := hlog.d1
      have hsz : w.heap.size ≤ wr.heap.size := HAP.out.kept.size
      have hpl : ps.length = (runC l vs).1.length := by rw [← HAP.out.out, List.length_map]
      have hpl2 := runC_few l vs
      have hps : ps.length ≤ 1000 := by omega
      have hnw := HAP.out.new
      have HOUT := Lib.hid HAP.out.out
      have HNOD := Lib.hid HAP.out.nod
      have HOWN := Lib.hid HAP.out.own
      have HAPT := Lib.hid HAP.out.apart
      have HGS := Lib.hid HAP.out.gsub
      have HKW := Lib.hid HAP.out.kept
      clear HAP hvm hvs hat hrow hN hlv hdv hpl hpl2 hlog
      obtain ⟨c0, c1, c2, c3⟩ := HLOG.out.c
      have f1 := HLOG.out.f 1
      have hset := (Kept.refl (fun i => i = g) wr).setCell (p := ⟨g, 1, none⟩) (.inl rfl) (.int .i64 (N + 1))
      have HLV1 : Hid (LogAt (wr.setCell ⟨g, 1, none⟩ (.int .i64 (N + 1))) G g bm L (N + 1) dv a4 c4 lv) := Lib.hid ⟨blkA_set HLOG.out.cells 1 (.int .i64 (N + 1)), HLOG.out.cfs.kept hset (fun i _ h e => (HLOG.out.sub i h).1 e), HLOG.out.sub, HLOG.out.map.kept hset (fun e => hgl.2.2 e), HLOG.out.ok, by omega, by omega, HLOG.out.d0, by omega, HLOG.out.few⟩
      have HEX := Lib.hid (LExec_any _ G g bm L (N + 1) dv a4 c4 lv v HLV1.out hvx hep0 (by omega))
      have HSET := Lib.hid hset
      clear hset hvx hvo hep0
      go_upto_region 6 with fail
      obtain ⟨V, hV⟩ : ∃ V, V = wr.setCell ⟨g, 1, none⟩ (.int .i64 (N + 1)) := ⟨_, rfl⟩
      rw [← hV] at HLV1 HEX HSET ⊢
      clear hV c0 c1 c2 c3 f1
      have HROWV := Lib.hid (HSET.out.heap (fun e => by have e : b4 = g := e; omega) HROW.out)
      obtain ⟨m0, m1, m2, m3⟩ := cells4c HROWV.out
      have hszV := HSET.out.size
      rw [show vcv v = .agg #[.int .i64 v.k, .int .i64 v.ch, .int .u64 v.ep, .int .i64 v.nd] from rfl] at HEX
      obtain ⟨mk, hmk⟩ : ∃ x, x = v.k := ⟨_, rfl⟩
      obtain ⟨mch, hmch⟩ : ∃ x, x = v.ch := ⟨_, rfl⟩
      obtain ⟨mep, hmep⟩ : ∃ x, x = v.ep := ⟨_, rfl⟩
      obtain ⟨mnd, hmnd⟩ : ∃ x, x = v.nd := ⟨_, rfl⟩
      rw [← hmk, ← hmch, ← hmep, ← hmnd] at HEX HROWV
      rw [← hmk] at m0
      rw [← hmch] at m1
      rw [← hmep] at m2
      rw [← hmnd] at m3
      clear hmk hmch hmep hmnd HROW
      go_wp2_with fail
      refine HEX.out.mono ?_
      rintro e w5 ⟨x, a5, c5, NB, he, hyes, hno, hNB, hL5, hk5⟩
      have HK5 := Lib.hid hk5
      have HROW5 := Lib.hid (hk5.heap (fun e => by rcases e with e | e <;> omega) HROWV.out)
      have HOWN5 := Lib.hid ((HOWN.out.kept HSET.out (fun k hk e => by have := HBASE.out k hk; have e : k = g := e; omega)).kept hk5 (fun k hk e => by have := HBASE.out k hk; rcases e with e | e <;> omega))
      have hsz5 := hk5.size
      clear hk5 HOWN HEX m0 m1 m2 m3
      obtain ⟨M, hM⟩ : ∃ M, M = nowC lv v := ⟨_, rfl⟩
      rw [← hM] at hL5 hyes
      have HM := Lib.hid hM
      clear hM
      cases hok : okC lv v with
      | true =>
        rw [hok] at he hL5
        rw [if_pos rfl, if_pos rfl] at hL5
        obtain ⟨u, rfl, hn, hbd⟩ := hyes hok
        have HL5 := Lib.hid hL5
        have HCAME : Hid (cameC lv v = [nthC M v.ch.toNat]) := Lib.hid (by unfold cameC; rw [hok, if_pos rfl, HM.out])
        obtain ⟨D, hD⟩ : ∃ D, D = nthC M v.ch.toNat := ⟨_, rfl⟩
        rw [← hD] at he hn hbd HCAME
        clear hD hyes hno hL5 hok
        subst he
        obtain ⟨ua, uc, rfl, _⟩ := id hn
        have HN5 := Lib.hid hn
        have HBD := Lib.hid hbd
        clear hn hbd
        obtain ⟨dch, dep, dns, dfr, djn⟩ := D
        simp only at HN5 HBD ⊢
        go_upto_region 8 with fail
        have hz8 : (w5.alloc (.cells #[.int .i64 dch, .int .u64 dep, .slice ua dns.length uc, .bool dfr, .int .i64 djn] 84)).heap.size = w5.heap.size + 1 := by simp
        have hrn := heap_alloc_new (w5.alloc (.cells #[.int .i64 dch, .int .u64 dep, .slice ua dns.length uc, .bool dfr, .int .i64 djn] 84)) (.cells #[.int .i64 dch, .int .u64 dep, .slice ua dns.length uc, .bool dfr, .int .i64 djn] 84)
        rw [hz8] at hrn
        have HRN := Lib.hid hrn
        have HKA := Lib.hid (((Kept.refl NoB w5).alloc (.cells #[.int .i64 dch, .int .u64 dep, .slice ua dns.length uc, .bool dfr, .int .i64 djn] 84)).alloc (.cells #[.int .i64 dch, .int .u64 dep, .slice ua dns.length uc, .bool dfr, .int .i64 djn] 84))
        have HO6 := Lib.hid (HOWN5.out.kept HKA.out (fun _ _ h => h))
        have HB6 : Hid (w.heap.size ≤ ((w5.alloc (.cells #[.int .i64 dch, .int .u64 dep, .slice ua dns.length uc, .bool dfr, .int .i64 djn] 84)).alloc (.cells #[.int .i64 dch, .int .u64 dep, .slice ua dns.length uc, .bool dfr, .int .i64 djn] 84)).heap.size) := Lib.hid (by have := HKA.out.size; omega)
        clear hz8 hrn
        go_upto_region 9 with (at_builtin; refine wpList_append_kc _ rfl (.tmp 41) (.tmp 43) rfl w.heap.size (.slice oa ps.length oc) ps rfl HO6.out (w5.heap.size + 1) ⟨dch, dep, dns, dfr, djn⟩ (.slice ua dns.length uc) rfl HRN.out rfl (by omega) HB6.out ?_; intro a6 c6 w6 hown6 hgr6 hat6; have HOWN6 := Lib.hid hown6; have HGR6 := Lib.hid hgr6; have HAT6 := Lib.hid hat6; clear hown6 hgr6 hat6)
        have hpl : ps.length + 1 = (ps ++ [((⟨dch, dep, dns, dfr, djn⟩ : Cf), Value.slice ua dns.length uc)]).length := by simp
        have hb6 : w5.heap.size < ((w5.alloc (.cells #[.int .i64 dch, .int .u64 dep, .slice ua dns.length uc, .bool dfr, .int .i64 djn] 84)).alloc (.cells #[.int .i64 dch, .int .u64 dep, .slice ua dns.length uc, .bool dfr, .int .i64 djn] 84)).heap.size := by simp; omega
        have hkg : Kept (fun k => (Value.slice oa ps.length oc).ownBlock = some k) w5 w6 := (HKA.out.mono (T := fun k => (Value.slice oa ps.length oc).ownBlock = some k) (fun _ _ h => h.elim)).grown HGR6.out (fun k hk => .inl hk)
        have HROW6 := Lib.hid (hkg.heap (fun e => own_ne HOWN5.out HROW5.out (by decide) e.symm) HROW5.out)
        have hcut := HL5.out.cut
        have HL6 := Lib.hid (hcut.kept hkg (fun e => by have := HBASE.out _ e; omega) (fun e => by have := HBASE.out _ e; omega) (fun k _ hk e => by have := HBASE.out _ e; have := hk.1; omega))
        have hnew : ∀ k, k < w5.heap.size → (Value.slice oa ps.length oc).ownBlock ≠ some k → (Value.slice a6 (ps.length + 1) c6).ownBlock ≠ some k := fun k hk hne e => by
          rcases HAT6.out with h | h
          · exact hne (h ▸ e)
          · rw [h] at e
            injection e with e
            omega
        have HNOD6 : Hid (∀ p ∈ ps ++ [((⟨dch, dep, dns, dfr, djn⟩ : Cf), Value.slice ua dns.length uc)], NSl w6 (fun k => (w.heap.size ≤ k ∧ (Value.slice a6 (ps.length + 1) c6).ownBlock ≠ some k) ∧ Wr w6 k ∧ ¬ ((V.heap.size ≤ k ∧ k < NB) ∧ k < w5.heap.size)) p.2 p.1.ns ∧ 0 ≤ p.1.ep ∧ p.1.ep ≤ topE ∧ p.1.ns.length ≤ 1000) := Lib.hid (fun p hp => by
          rcases List.mem_append.1 hp with hp | hp
          · obtain ⟨h1, h2⟩ := HNOD.out p hp
            have h3 := h1.mono (G := fun k => ((w.heap.size ≤ k ∧ (Value.slice oa ps.length oc).ownBlock ≠ some k) ∧ Wr wr k) ∧ k < wr.heap.size) (fun k hk h => ⟨⟨h.1, h.2.1⟩, hk⟩)
            have g1 : ∀ k, w.heap.size ≤ k → ¬ k = g := fun k h e => by omega
            have g2 : ∀ k, w.heap.size ≤ k → ¬ LB g bm k := fun k h e => by rcases e with e | e <;> omega
            have h4 := (h3.kept HSET.out (fun k _ h e => g1 k h.1.1.1 e)).kept HK5.out (fun k _ h e => g2 k h.1.1.1 e)
            have h5 := h4.kept hkg (fun k _ h e => h.1.1.2 e)
            exact ⟨h5.mono (fun k _ h => ⟨⟨h.1.1.1, hnew k (by have := h.2; omega) h.1.1.2⟩, ((h.1.2.kept HSET.out (fun e => g1 k h.1.1.1 e)).kept HK5.out (g2 k h.1.1.1)).kept hkg (fun e => h.1.1.2 e), fun e => by have := h.2; have := e.1.1; omega⟩), h2⟩
          · simp only [List.mem_singleton] at hp
            subst hp
            have h3 := HN5.out.mono (G := fun k => (NB ≤ k ∧ Wr w5 k) ∧ k < w5.heap.size) (fun k hk h => ⟨h, hk⟩)
            have g1 : ∀ k, NB ≤ k → ¬ (Value.slice oa ps.length oc).ownBlock = some k := fun k h e => by have := HBASE.out _ e; omega
            have h5 := h3.kept hkg (fun k _ h e => g1 k h.1.1 e)
            exact ⟨h5.mono (fun k _ h => ⟨⟨by have := h.1.1; omega, hnew k h.2 (g1 k h.1.1)⟩, h.1.2.kept hkg (g1 k h.1.1), fun e => by have := h.1.1; have := e.1.2; omega⟩), HBD.out⟩)
        have HAPT6 : Hid (∀ k, (Value.slice a6 (ps.length + 1) c6).ownBlock = some k → ¬ ((V.heap.size ≤ k ∧ k < NB) ∧ k < w5.heap.size)) := Lib.hid (fun k e h => hnew k h.2 (fun e2 => by have := HBASE.out _ e2; have := h.1.1; omega) e)
        have HGS6 : Hid (∀ k, ((V.heap.size ≤ k ∧ k < NB) ∧ k < w5.heap.size) → F k ∨ w.heap.size ≤ k) := Lib.hid (fun k h => .inr (by have := h.1.1; omega))
        have HOUT6 : Hid ((ps ++ [((⟨dch, dep, dns, dfr, djn⟩ : Cf), Value.slice ua dns.length uc)]).map Prod.fst = (runC l (vs ++ [v])).1) := Lib.hid (by rw [HS.out, HCAME.out, List.map_append, HOUT.out]; rfl)
        have HDN6 : Hid (dn + ((runC l (vs ++ [v])).1.length : Int) = dv + 1) := Lib.hid (by rw [HS.out, HCAME.out, HDV.out]; simp; omega)
        have HK6 : Hid (Kept (LB g bm) w w6) := Lib.hid (((HKW.out.trans (HSET.out.mono (T := LB g bm) (fun _ _ e => .inl e)) (fun _ _ h => h)).trans HK5.out (fun _ _ h => h)).trans hkg (fun k hk e => by have := HBASE.out _ e; omega))
        clear hpl hb6 hkg hcut hnew HRN HKA HO6 HB6 HGR6 HAT6 HOWN5 HROW5 HL5 HN5 HBD HAPT HNOD HSET HK5
        have hsz6 := HK6.out.size
        obtain ⟨m0, m1, m2, m3⟩ := cells4c HROW6.out
        go_upto_region 4 with fail
        have HL7 := Lib.hid (HL6.out.no ((Kept.refl NoB w6).alloc (.cells #[.int .i64 mk, .int .i64 mch, .int .u64 mep, .int .i64 mnd] 39)))
        have HR7 := Lib.hid (heap_alloc_new w6 (.cells #[.int .i64 mk, .int .i64 mch, .int .u64 mep, .int .i64 mnd] 39))
        have HK7 := Lib.hid ((Kept.refl NoB w6).alloc (.cells #[.int .i64 mk, .int .i64 mch, .int .u64 mep, .int .i64 mnd] 39))
        obtain ⟨W7, hW7⟩ : ∃ W, W = w6.alloc (.cells #[.int .i64 mk, .int .i64 mch, .int .u64 mep, .int .i64 mnd] 39) := ⟨_, rfl⟩
        rw [← hW7] at HL7 HR7 HK7 ⊢
        clear hW7 m0 m1 m2 m3
        have HAT7 := Lib.hid (LAt_any W7 _ g bm (N + 1) L _ _ _ _ _ HL7.out (WalkArith.wf_i64 (by omega)))
        obtain ⟨c0, c1, c2, c3⟩ := HL7.out.c
        obtain ⟨z2, hz2⟩ : ∃ z, z = (atV L (N + 1)).isSome := ⟨_, rfl⟩
        obtain ⟨q, hq⟩ : ∃ y, y = (atV L (N + 1)).getD vt0 := ⟨_, rfl⟩
        rw [← hz2, ← hq] at HAT7
        have HZ2 := Lib.hid hz2
        have HQ := Lib.hid hq
        clear hz2 hq
        obtain ⟨q0, q1, q2, q3, q4, q5⟩ := q
        rw [show vcv ⟨q0, q1, q2, q3, q4, q5⟩ = .agg #[.int .i64 q2, .int .i64 q3, .int .u64 q4, .int .i64 q5] from rfl] at HAT7
        go_wp2_with fail
        refine HAT7.out.mono ?_
        rintro e w8 ⟨rfl, hk8⟩
        have HR8 := Lib.hid (hk8.heap (fun h => h) HR7.out)
        have HK8 := Lib.hid (HK7.out.trans hk8 (fun _ _ h => h))
        have HL8 := Lib.hid (HL7.out.no hk8)
        clear hk8 c0 c1 c2 c3
        obtain ⟨m0, m1, m2, m3⟩ := cells4c HR8.out
        obtain ⟨f0, f1, f2, f3⟩ := frz4 HR8.out
        have hK := HK8.out.four (b := w6.heap.size) (.inr (Nat.le_refl _)) (.int .i64 q2) (.int .i64 q3) (.int .u64 q4) (.int .i64 q5)
        have hrow := four_at HR8.out (.int .i64 q2) (.int .i64 q3) (.int .u64 q4) (.int .i64 q5)
        have hlen : nx + (((vs ++ [v]).length : Nat) : Int) = N + 1 := by rw [HN.out]; simp; omega
        have hfin := ApAt.no (dn := dn) hK HOWN6.out HOUT6.out HNOD6.out hlen HDN6.out (by rw [HS.out, ← HM.out]) (by rw [← HQ.out]; exact hrow) hsz6 HNEXT.out HL6.out HAPT6.out HGS6.out HK6.out
        have HFIN := Lib.hid hfin
        have HLEN := Lib.hid hlen
        have HM1 : Hid (mNext g (four w8 w6.heap.size (.int .i64 q2) (.int .i64 q3) (.int .u64 q4) (.int .i64 q5)) < mNext g wr) := Lib.hid (by
          rw [mNext_at (HL6.out.no hK).c.2.1, mNext_at HLOG.out.c.2.1]
          omega)
        clear hfin hlen hK hrow
        unfold four at HFIN HM1
        go_wp2
        refine ⟨⟨vs ++ [v], _, _, _, _, _, rfl, ?_, HFIN.out⟩, HM1.out⟩
        rw [HLEN.out, HZ2.out]
      | false =>
        rw [hok] at he hL5
        rw [if_neg (by simp), if_neg (by simp)] at hL5
        have HL5 := Lib.hid hL5
        have HCAME : Hid (cameC lv v = []) := Lib.hid (by unfold cameC; rw [hok, if_neg (by simp)])
        obtain rfl := hno hok
        clear hyes hno hL5 hok
        subst he
        unfold cfz
        go_upto_region 9 with fail
        have HK6A := Lib.hid ((Kept.refl NoB w5).alloc (.cells #[.int .i64 0, .int .u64 0, .slice none 0 0, .bool false, .int .i64 0] 84))
        obtain ⟨w6, hw6⟩ : ∃ W, W = w5.alloc (.cells #[.int .i64 0, .int .u64 0, .slice none 0 0, .bool false, .int .i64 0] 84) := ⟨_, rfl⟩
        rw [← hw6] at HK6A ⊢
        clear hw6
        have HROW6 := Lib.hid (HK6A.out.heap (fun h => h) HROW5.out)
        have HOWN6 := Lib.hid (HOWN5.out.kept HK6A.out (fun _ _ h => h))
        have HL6 := Lib.hid (HL5.out.no HK6A.out)
        have HNOD6 : Hid (∀ p ∈ ps, NSl w6 (fun k => (w.heap.size ≤ k ∧ (Value.slice oa ps.length oc).ownBlock ≠ some k) ∧ Wr w6 k ∧ ¬ G k) p.2 p.1.ns ∧ 0 ≤ p.1.ep ∧ p.1.ep ≤ topE ∧ p.1.ns.length ≤ 1000) := Lib.hid (fun p hp => by
          obtain ⟨h1, h2⟩ := HNOD.out p hp
          have g1 : ∀ k, w.heap.size ≤ k → ¬ k = g := fun k h e => by omega
          have g2 : ∀ k, w.heap.size ≤ k → ¬ LB g bm k := fun k h e => by rcases e with e | e <;> omega
          exact ⟨(((h1.kept HSET.out (fun k _ h e => g1 k h.1.1 e)).kept HK5.out (fun k _ h e => g2 k h.1.1 e)).kept HK6A.out (fun _ _ _ h => h)).mono (fun k _ h => ⟨h.1, ((h.2.1.kept HSET.out (fun e => g1 k h.1.1 e)).kept HK5.out (g2 k h.1.1)).kept HK6A.out (fun h => h), h.2.2⟩), h2⟩)
        have HOUT6 : Hid (ps.map Prod.fst = (runC l (vs ++ [v])).1) := Lib.hid (by rw [HS.out, HCAME.out, List.append_nil, HOUT.out])
        have HDN6 : Hid (dn + ((runC l (vs ++ [v])).1.length : Int) = dv) := Lib.hid (by rw [HS.out, HCAME.out, HDV.out]; simp)
        have HK6 : Hid (Kept (LB g bm) w w6) := Lib.hid (((HKW.out.trans (HSET.out.mono (T := LB g bm) (fun _ _ e => .inl e)) (fun _ _ h => h)).trans HK5.out (fun _ _ h => h)).trans HK6A.out (fun _ _ h => h.elim))
        clear HK6A HOWN5 HROW5 HL5 HNOD HSET HK5
        have hsz6 := HK6.out.size
        obtain ⟨m0, m1, m2, m3⟩ := cells4c HROW6.out
        go_upto_region 4 with fail
        have HL7 := Lib.hid (HL6.out.no ((Kept.refl NoB w6).alloc (.cells #[.int .i64 mk, .int .i64 mch, .int .u64 mep, .int .i64 mnd] 39)))
        have HR7 := Lib.hid (heap_alloc_new w6 (.cells #[.int .i64 mk, .int .i64 mch, .int .u64 mep, .int .i64 mnd] 39))
        have HK7 := Lib.hid ((Kept.refl NoB w6).alloc (.cells #[.int .i64 mk, .int .i64 mch, .int .u64 mep, .int .i64 mnd] 39))
        obtain ⟨W7, hW7⟩ : ∃ W, W = w6.alloc (.cells #[.int .i64 mk, .int .i64 mch, .int .u64 mep, .int .i64 mnd] 39) := ⟨_, rfl⟩
        rw [← hW7] at HL7 HR7 HK7 ⊢
        clear hW7 m0 m1 m2 m3
        have HAT7 := Lib.hid (LAt_any W7 _ g bm (N + 1) L _ _ _ _ _ HL7.out (WalkArith.wf_i64 (by omega)))
        obtain ⟨c0, c1, c2, c3⟩ := HL7.out.c
        obtain ⟨z2, hz2⟩ : ∃ z, z = (atV L (N + 1)).isSome := ⟨_, rfl⟩
        obtain ⟨q, hq⟩ : ∃ y, y = (atV L (N + 1)).getD vt0 := ⟨_, rfl⟩
        rw [← hz2, ← hq] at HAT7
        have HZ2 := Lib.hid hz2
        have HQ := Lib.hid hq
        clear hz2 hq
        obtain ⟨q0, q1, q2, q3, q4, q5⟩ := q
        rw [show vcv ⟨q0, q1, q2, q3, q4, q5⟩ = .agg #[.int .i64 q2, .int .i64 q3, .int .u64 q4, .int .i64 q5] from rfl] at HAT7
        go_wp2_with fail
        refine HAT7.out.mono ?_
        rintro e w8 ⟨rfl, hk8⟩
        have HR8 := Lib.hid (hk8.heap (fun h => h) HR7.out)
        have HK8 := Lib.hid (HK7.out.trans hk8 (fun _ _ h => h))
        have HL8 := Lib.hid (HL7.out.no hk8)
        clear hk8 c0 c1 c2 c3
        obtain ⟨m0, m1, m2, m3⟩ := cells4c HR8.out
        obtain ⟨f0, f1, f2, f3⟩ := frz4 HR8.out
        have hK := HK8.out.four (b := w6.heap.size) (.inr (Nat.le_refl _)) (.int .i64 q2) (.int .i64 q3) (.int .u64 q4) (.int .i64 q5)
        have hrow := four_at HR8.out (.int .i64 q2) (.int .i64 q3) (.int .u64 q4) (.int .i64 q5)
        have hlen : nx + (((vs ++ [v]).length : Nat) : Int) = N + 1 := by rw [HN.out]; simp; omega
        have hfin := ApAt.no (dn := dn) hK HOWN6.out HOUT6.out HNOD6.out hlen HDN6.out (by rw [HS.out, ← HM.out]) (by rw [← HQ.out]; exact hrow) hsz6 HNEXT.out HL6.out HAPT.out HGS.out HK6.out
        have HFIN := Lib.hid hfin
        have HLEN := Lib.hid hlen
        have HM1 : Hid (mNext g (four w8 w6.heap.size (.int .i64 q2) (.int .i64 q3) (.int .u64 q4) (.int .i64 q5)) < mNext g wr) := Lib.hid (by
          rw [mNext_at (HL6.out.no hK).c.2.1, mNext_at HLOG.out.c.2.1]
          omega)
        clear hfin hlen hK hrow
        unfold four at HFIN HM1
        go_wp2
        refine ⟨⟨vs ++ [v], _, _, _, _, _, rfl, ?_, HFIN.out⟩, HM1.out⟩
        rw [HLEN.out, HZ2.out]
end Go.Proofs.Ytidhaofojcdbaaa
namespace Go.Proofs.Ytidhaofojcdbaaa
open Go.RowKit
set_option linter.unusedVariables false

theorem LogAt.drew {w : World} {F : Nat → Prop} {g bm : Nat} {L : List Vt} {nx dn : Int} {a : Option Addr} {c : Nat} {l : List Cf} (h : LogAt w F g bm L nx dn a c l) : LogAt w.drew F g bm L nx dn a c l := h.no (Kept.refl _ _).drew
theorem LogAt.mono_ {w : World} {F G : Nat → Prop} {g bm : Nat} {L : List Vt} {nx dn : Int} {a : Option Addr} {c : Nat} {l : List Cf} (h : LogAt w F g bm L nx dn a c l) (hG : ∀ k, F k → G k) (hs : ∀ k, G k → NL g bm k) : LogAt w G g bm L nx dn a c l :=
  ⟨h.cells, h.cfs.mono (fun k _ hf => hG k hf), hs, h.map, h.ok, h.n0, h.n1, h.d0, h.d1, h.few⟩
theorem LogAt.known {w : World} {F : Nat → Prop} {g bm : Nat} {L : List Vt} {nx dn : Int} {a : Option Addr} {c : Nat} {l : List Cf} (h : LogAt w F g bm L nx dn a c l) : L.length ≤ 512 := by
  have := votes_few_aux L 0 h.map.1 (fun v hv => ⟨(h.ok v hv).1.1, (h.ok v hv).1.2.1⟩) (by omega)
  omega
/-- The error of Learn. -/
def lrnX (L : List Vt) (s e0 k ch ep nd : Int) : Int :=
  if s < 0 ∨ 512 ≤ s then 1 else if e0 ≠ 0 then e0 else match atV L s with
    | none => 0
    | some v => if v.k = k ∧ v.ch = ch ∧ v.ep = ep ∧ v.nd = nd then 0 else 8
def LearnE (F : Nat → Prop) (g bm : Nat) (L : List Vt) (nx dn : Int) (a : Option Addr) (c : Nat) (l : List Cf) (s e0 k ch ep nd : Int) (w : World) (e : Ending) (w' : World) : Prop :=
  (lrnX L s e0 k ch ep nd ≠ 0 ∧ e = .returned (.tuple #[.slice none 0 0, .int .i64 (lrnX L s e0 k ch ep nd)]) ∧ LogAt w' F g bm L nx dn a c l ∧ Kept NoB w w') ∨
  (lrnX L s e0 k ch ep nd = 0 ∧ ∃ (vs : List Vt) (oa : Option Addr) (oc : Nat) (a' : Option Addr) (c' : Nat) (G : Nat → Prop), e = .returned (.tuple #[.slice oa (runC l vs).1.length oc, .int .i64 0]) ∧ CfsAt w' (fun k => w.heap.size ≤ k ∧ Wr w' k ∧ ¬ G k) (.slice oa (runC l vs).1.length oc) (runC l vs).1 ∧
    (∀ i (hi : i < vs.length), atV (putV L ⟨s, 0, k, ch, ep, nd⟩) (nx + i) = some vs[i]) ∧ atV (putV L ⟨s, 0, k, ch, ep, nd⟩) (nx + vs.length) = none ∧
    LogAt w' (fun k => G k ∧ (F k ∨ w.heap.size ≤ k)) g bm (putV L ⟨s, 0, k, ch, ep, nd⟩) (nx + vs.length) (dn + (runC l vs).1.length) a' c' (runC l vs).2 ∧ Kept (LB g bm) w w')
theorem LLearn_nil (w : World) (s k ch ep nd : Int) : Calls Try.prog 34 #[.pointer none, .int .i64 s, .agg #[.int .i64 k, .int .i64 ch, .int .u64 ep, .int .i64 nd]] w fun e w' => e = .returned (.tuple #[.slice none 0 0, .int .i64 2]) ∧ Kept NoB w w' := by
  go_enter Try.func34, Try.ntmps34
  go_wp2
  go_ret2
  exact ⟨rfl, (Kept.refl _ _).alloc _⟩
theorem lrn_err {F : Nat → Prop} {g bm : Nat} {L : List Vt} {nx dn : Int} {a : Option Addr} {c : Nat} {l : List Cf} {s e0 k ch ep nd x : Int} {w w' : World} (hx : lrnX L s e0 k ch ep nd = x) (h0 : x ≠ 0) (hL : LogAt w F g bm L nx dn a c l) (hk : Kept NoB w w') : LearnE F g bm L nx dn a c l s e0 k ch ep nd w (.returned (.tuple #[.slice none 0 0, .int .i64 x])) w' := by
  subst hx
  exact .inl ⟨h0, rfl, hL.no hk, hk⟩
set_option maxRecDepth 100000 in
set_option maxHeartbeats 4000000 in
theorem LLearn_any (w : World) (F : Nat → Prop) (g bm : Nat) (L : List Vt) (nx dn : Int) (a : Option Addr) (c : Nat) (l : List Cf) (s e0 k ch ep nd : Int) (h : LogAt w F g bm L nx dn a c l) (hx : Chk k ch ep nd e0) (hep : 0 ≤ ep) (hep2 : ep ≤ 18446744073709551615) :
    Calls Try.prog 34 #[.pointer (some ⟨g, 0, none⟩), .int .i64 s, .agg #[.int .i64 k, .int .i64 ch, .int .u64 ep, .int .i64 nd]] w (LearnE F g bm L nx dn a c l s e0 k ch ep nd w) := by
  have hgl := h.lt
  have H0 := Lib.hid h
  have hrow := heap_alloc_new w (.cells #[.int .i64 k, .int .i64 ch, .int .u64 ep, .int .i64 nd] 39)
  have hk0 := (Kept.refl NoB w).alloc (.cells #[.int .i64 k, .int .i64 ch, .int .u64 ep, .int .i64 nd] 39)
  obtain ⟨W, hW⟩ : ∃ W, W = w.alloc (.cells #[.int .i64 k, .int .i64 ch, .int .u64 ep, .int .i64 nd] 39) := ⟨_, rfl⟩
  have HWW := Lib.hid hW
  have hsz : w.heap.size < W.heap.size := by rw [hW]; simp
  rw [← hW] at hrow hk0
  have HROW := Lib.hid hrow
  have HK := Lib.hid hk0
  have HL := Lib.hid (h.no hk0)
  clear h hrow hk0 hW
  by_cases hs : s < 0 ∨ 512 ≤ s
  · have HX : Hid (lrnX L s e0 k ch ep nd = 1) := Lib.hid (by unfold lrnX; rw [if_pos hs])
    by_cases hs0 : s < 0
    · clear hs
      go_enter Try.func34, Try.ntmps34
      go_wp2
      rw [← HWW.out]
      go_ret2
      exact lrn_err HX.out (by decide) H0.out HK.out
    · have hs1 : 512 ≤ s := by omega
      have hs2 : 0 ≤ s := by omega
      clear hs hs0
      go_enter Try.func34, Try.ntmps34
      go_wp2
      rw [← HWW.out]
      go_ret2
      exact lrn_err HX.out (by decide) H0.out HK.out
  · have hs1 : 0 ≤ s := by omega
    have hs2 : s < 512 := by omega
    have hd : decide (512 ≤ s) = false := decide_eq_false (by omega)
    have HCK : Hid (∀ w, Calls Try.prog 52 #[.agg #[.int .i64 k, .int .i64 ch, .int .u64 ep, .int .i64 nd]] w fun e w' => e = .returned (.int .i64 e0) ∧ Kept NoB w w') :=
      Lib.hid (fun w => (Check_any k ch ep nd w hep).mono (by rintro e w' ⟨y, hy, rfl, hk⟩; exact ⟨by rw [hy.one hx], hk⟩))
    obtain ⟨d0, d1, d2, d3⟩ := cells4c HROW.out
    by_cases he : e0 = 0
    · subst he
      have HXL : Hid (lrnX L s 0 k ch ep nd = match atV L s with
        | none => 0
        | some v => if v.k = k ∧ v.ch = ch ∧ v.ep = ep ∧ v.nd = nd then 0 else 8) := Lib.hid (by unfold lrnX; rw [if_neg hs, if_neg (by simp)])
      have hwf : (Lit.int .i64 s).wf = true := WalkArith.wf_i64 (by omega)
      have HWF := Lib.hid hwf
      have HCX := Lib.hid hx
      -- what is put, in each way
      have HPUT : Hid (∀ w2, Kept NoB w w2 → ∃ w3, (Instr.mapUpdate 136 (.map (some bm)) (.int .i64 s) (.agg #[.int .i64 k, .int .i64 ch, .int .u64 ep, .int .i64 nd])).run Try.prog w2.drew = .ok () w3 ∧ LogAt w3 F g bm (putV L ⟨s, 0, k, ch, ep, nd⟩) nx dn a c l ∧ Kept (LB g bm) w w3 ∧ w2.heap.size ≤ w3.heap.size) := Lib.hid (fun w2 hk => by
        have hl2 := (H0.out.no hk).drew
        obtain ⟨w3, hrun, hm, hg⟩ := run_store_mv (P := Try.prog) w2.drew 136 3 39 Try.underlying3 Try.underlying136 bm vcv L ⟨s, 0, k, ch, ep, nd⟩ hl2.map HWF.out (by have := hl2.known; omega)
        have hkb : Kept (fun i => i = bm) w2.drew w3 := (Kept.refl (fun i => i = bm) w2.drew).grown hg (fun i hi => by injection hi with hi; exact .inl hi.symm)
        refine ⟨w3, hrun, ⟨hkb.heap (fun e => hgl.2.2 e.symm) hl2.cells, hl2.cfs.kept hkb (fun i _ h e => (hl2.sub i h).2 e), hl2.sub, hm, fun x hx => ?_, hl2.n0, hl2.n1, hl2.d0, hl2.d1, hl2.few⟩, (hk.drew.mono (T := LB g bm) (fun _ _ h => h.elim)).trans hkb (fun _ _ e => .inr e), hkb.size⟩
        rcases putV_mem hx with rfl | hx
        · exact ⟨⟨hs1, hs2, by show (0 : Int) ≤ 0; decide, by show (0 : Int) ≤ 18446744073709551615; decide, hep, hep2⟩, HCX.out⟩
        · exact hl2.ok x hx)
      clear hs hx hwf
      go_enter Try.func34, Try.ntmps34
      go_wp2_with fail
      rw [← HWW.out]
      refine (HCK.out _).mono ?_
      rintro e w1 ⟨rfl, hk1⟩
      have HK1 := Lib.hid (HK.out.trans hk1 (fun _ _ h => h))
      have HROW1 := Lib.hid (hk1.heap (fun h => h) HROW.out)
      have HAT := Lib.hid (LAt_any w1 F g bm s L nx dn a c l (HL.out.no hk1) HWF.out)
      clear hk1 d0 d1 d2 d3
      obtain ⟨d0, d1, d2, d3⟩ := cells4c HROW1.out
      cases hat : atV L s with
      | none =>
        have HXL := HXL.out
        rw [hat] at HXL HAT
        have HX : Hid (lrnX L s 0 k ch ep nd = 0) := Lib.hid HXL
        have HAT : Hid (Calls Try.prog 40 #[.pointer (some ⟨g, 0, none⟩), .int .i64 s] w1 fun e w' => e = .returned (.tuple #[.agg #[.int .i64 0, .int .i64 0, .int .u64 0, .int .i64 0], .bool false]) ∧ Kept NoB w1 w') := HAT
        clear HXL hat
        go_wp2_with fail
        refine HAT.out.mono ?_
        rintro e w2 ⟨rfl, hk2⟩
        have HK2 := Lib.hid ((HK1.out.trans hk2 (fun _ _ h => h)).alloc (.cells #[.int .i64 0, .int .i64 0, .int .u64 0, .int .i64 0] 39))
        have HROW2 := Lib.hid (blkA_alloc (hk2.heap (fun h => h) HROW1.out) (.cells #[.int .i64 0, .int .i64 0, .int .u64 0, .int .i64 0] 39))
        clear hk2 d0 d1 d2 d3
        go_upto_region 11 with fail
        obtain ⟨W2, hW2⟩ : ∃ W, W = w2.alloc (.cells #[.int .i64 0, .int .i64 0, .int .u64 0, .int .i64 0] 39) := ⟨_, rfl⟩
        rw [← hW2] at HK2 HROW2 ⊢
        clear hW2
        obtain ⟨w3, hrun, hlog3, hk3, hz3⟩ := HPUT.out W2 HK2.out
        have HLOG3 := Lib.hid hlog3
        have HK3 := Lib.hid hk3
        have HAPP := Lib.hid (LApply_any w3 F g bm _ nx dn a c l hlog3)
        obtain ⟨c0, c1, c2, c3⟩ := (H0.out.no HK2.out).c
        obtain ⟨d0, d1, d2, d3⟩ := cells4c HROW2.out
        clear hlog3 hk3 hz3
        go_region
        all_goals
          clear c0 c1 c2 c3 d0 d1 d2 d3 hrun
          go_wp2_with fail
          refine HAPP.out.mono ?_
          rintro e w4 ⟨vs, oa, oc, a', c', G, rfl, hcf, hat, hno, hlog, hk4⟩
          have HFIN : Hid (LearnE F g bm L nx dn a c l s 0 k ch ep nd w (.returned (.tuple #[.slice oa (runC l vs).1.length oc, .int .i64 0])) w4) := Lib.hid (.inr ⟨HX.out, vs, oa, oc, a', c', G, rfl, hcf.mono (fun i _ h => ⟨Nat.le_trans HK3.out.size h.1, h.2⟩), hat, hno, hlog.mono_ (fun i h => ⟨h.1, h.2.imp id (Nat.le_trans HK3.out.size)⟩) (fun i h => h.2.elim (fun hf => hlog.sub i ⟨h.1, .inl hf⟩) (fun hw => ⟨by omega, by omega⟩)), HK3.out.trans hk4 (fun _ _ h => h)⟩)
          clear hcf hat hno hlog hk4
          go_wp2
          go_ret2
          exact HFIN.out
      | some v =>
        obtain ⟨v0, v1, v2, v3, v4, v5⟩ := v
        have HXL := HXL.out
        rw [hat] at HXL HAT
        have HAT : Hid (Calls Try.prog 40 #[.pointer (some ⟨g, 0, none⟩), .int .i64 s] w1 fun e w' => e = .returned (.tuple #[.agg #[.int .i64 v2, .int .i64 v3, .int .u64 v4, .int .i64 v5], .bool true]) ∧ Kept NoB w1 w') := HAT
        clear hat
        by_cases hsame : v2 = k ∧ v3 = ch ∧ v4 = ep ∧ v5 = nd
        · have HX : Hid (lrnX L s 0 k ch ep nd = 0) := Lib.hid (by rw [HXL]; exact if_pos hsame)
          obtain ⟨rfl, rfl, rfl, rfl⟩ := hsame
          clear HXL
          go_wp2_with fail
          refine HAT.out.mono ?_
          rintro e w2 ⟨rfl, hk2⟩
          have HK2 := Lib.hid ((HK1.out.trans hk2 (fun _ _ h => h)).alloc (.cells #[.int .i64 v2, .int .i64 v3, .int .u64 v4, .int .i64 v5] 39))
          have HROW2 := Lib.hid (blkA_alloc (hk2.heap (fun h => h) HROW1.out) (.cells #[.int .i64 v2, .int .i64 v3, .int .u64 v4, .int .i64 v5] 39))
          have HR9 := Lib.hid (heap_alloc_new w2 (.cells #[.int .i64 v2, .int .i64 v3, .int .u64 v4, .int .i64 v5] 39))
          clear hk2 d0 d1 d2 d3
          obtain ⟨d0, d1, d2, d3⟩ := cells4c HROW2.out
          obtain ⟨m0, m1, m2, m3⟩ := cells4c HR9.out
          go_upto_region 11 with fail
          obtain ⟨W2, hW2⟩ : ∃ W, W = w2.alloc (.cells #[.int .i64 v2, .int .i64 v3, .int .u64 v4, .int .i64 v5] 39) := ⟨_, rfl⟩
          rw [← hW2] at HK2 HROW2 ⊢
          clear hW2 d0 d1 d2 d3 m0 m1 m2 m3 HR9
          obtain ⟨w3, hrun, hlog3, hk3, hz3⟩ := HPUT.out W2 HK2.out
          have HLOG3 := Lib.hid hlog3
          have HK3 := Lib.hid hk3
          have HAPP := Lib.hid (LApply_any w3 F g bm _ nx dn a c l hlog3)
          obtain ⟨c0, c1, c2, c3⟩ := (H0.out.no HK2.out).c
          obtain ⟨d0, d1, d2, d3⟩ := cells4c HROW2.out
          clear hlog3 hk3 hz3
          go_region
          all_goals
            clear c0 c1 c2 c3 d0 d1 d2 d3 hrun
            go_wp2_with fail
            refine HAPP.out.mono ?_
            rintro e w4 ⟨vs, oa, oc, a', c', G, rfl, hcf, hat, hno, hlog, hk4⟩
            have HFIN : Hid (LearnE F g bm L nx dn a c l s 0 v2 v3 v4 v5 w (.returned (.tuple #[.slice oa (runC l vs).1.length oc, .int .i64 0])) w4) := Lib.hid (.inr ⟨HX.out, vs, oa, oc, a', c', G, rfl, hcf.mono (fun i _ h => ⟨Nat.le_trans HK3.out.size h.1, h.2⟩), hat, hno, hlog.mono_ (fun i h => ⟨h.1, h.2.imp id (Nat.le_trans HK3.out.size)⟩) (fun i h => h.2.elim (fun hf => hlog.sub i ⟨h.1, .inl hf⟩) (fun hw => ⟨by omega, by omega⟩)), HK3.out.trans hk4 (fun _ _ h => h)⟩)
            clear hcf hat hno hlog hk4
            go_wp2
            go_ret2
            exact HFIN.out
        · have HX : Hid (lrnX L s 0 k ch ep nd = 8) := Lib.hid (by rw [HXL]; exact if_neg hsame)
          have HDF : Hid (v2 ≠ k ∨ (v2 = k ∧ v3 ≠ ch) ∨ (v2 = k ∧ v3 = ch ∧ v4 ≠ ep) ∨ (v2 = k ∧ v3 = ch ∧ v4 = ep ∧ v5 ≠ nd)) := Lib.hid (by omega)
          clear HXL hsame
          go_wp2_with fail
          refine HAT.out.mono ?_
          rintro e w2 ⟨rfl, hk2⟩
          have HK2 := Lib.hid ((HK1.out.trans hk2 (fun _ _ h => h)).alloc (.cells #[.int .i64 v2, .int .i64 v3, .int .u64 v4, .int .i64 v5] 39))
          have HROW2 := Lib.hid (blkA_alloc (hk2.heap (fun h => h) HROW1.out) (.cells #[.int .i64 v2, .int .i64 v3, .int .u64 v4, .int .i64 v5] 39))
          have HR9 := Lib.hid (heap_alloc_new w2 (.cells #[.int .i64 v2, .int .i64 v3, .int .u64 v4, .int .i64 v5] 39))
          clear hk2 d0 d1 d2 d3
          obtain ⟨d0, d1, d2, d3⟩ := cells4c HROW2.out
          obtain ⟨m0, m1, m2, m3⟩ := cells4c HR9.out
          rcases HDF.out with h | ⟨rfl, h⟩ | ⟨rfl, rfl, h⟩ | ⟨rfl, rfl, rfl, h⟩
          all_goals
            have hb1 := beq_false_of_ne h
            clear h
            go_wp2
            go_ret2
            exact lrn_err HX.out (by decide) H0.out HK2.out
    · have HX : Hid (lrnX L s e0 k ch ep nd = e0) := Lib.hid (by unfold lrnX; rw [if_neg hs, if_pos he])
      have heb : (e0 != 0) = true := by simpa using he
      have HE := Lib.hid he
      clear hs hx he
      go_enter Try.func34, Try.ntmps34
      go_wp2_with fail
      rw [← HWW.out]
      refine (HCK.out _).mono ?_
      rintro e w1 ⟨rfl, hk1⟩
      have HK1 := Lib.hid (HK.out.trans hk1 (fun _ _ h => h))
      clear hk1 d0 d1 d2 d3
      go_wp2
      go_ret2
      exact lrn_err HX.out HE.out H0.out HK1.out
end Go.Proofs.Ytidhaofojcdbaaa
