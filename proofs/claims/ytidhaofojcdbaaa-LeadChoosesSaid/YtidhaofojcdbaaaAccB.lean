/-
  Package accept: an acceptor in memory; New, Vote, Promised, Len.
-/
import Derived.Test.YtidhaofojcdbaaaProg
import Derived.Test.YtidhaofojcdbaaaAccA
import Derived.WalkSpells
import Derived.WalkLawsBesides
import Derived.BigRegion
import Derived.Deep.QuietTactic
import Derived.BigQuiet
import Derived.Deep.RegionHeld3
import Derived.Deep.RegionLaw
import Derived.Deep.DeepMust
import Derived.Outline
import Derived.KernelRfl
namespace Go.Proofs.Ytidhaofojcdbaaa
open Go.RowKit
set_option linter.unusedVariables false

theorem blkA_frozen {w : World} {g : Nat} {cs : Array Value} {t : TypeId} (h : w.heap[g]? = some (.cells cs t (0, 0))) (o : Nat) : w.frozen? ⟨g, o, none⟩ = false := by simp [World.frozen?, h]
theorem blkA_set {w : World} {g : Nat} {cs : Array Value} {t : TypeId} {fr : Nat × Nat} (h : w.heap[g]? = some (.cells cs t fr)) (i : Nat) (u : Value) :
    (w.setCell ⟨g, i, none⟩ u).heap[g]? = some (.cells (cs.setIfInBounds i u) t fr) := by simp [World.setCell, Array.getElem?_modify, h]
theorem blkA_set_other {w : World} {g k : Nat} {o : Obj} (h : w.heap[g]? = some o) (i : Nat) (u : Value) (hk : k ≠ g) :
    (w.setCell ⟨k, i, none⟩ u).heap[g]? = some o := by simp [World.setCell, Array.getElem?_modify, h, hk]
theorem blkA_alloc {w : World} {g : Nat} {o : Obj} (h : w.heap[g]? = some o) (x : Obj) : (w.alloc x).heap[g]? = some o := (heap_alloc_old w x (heap_lt h)).trans h
theorem zero_vote (w : World) : (zeroValue 48).run Try.prog w = .ok (vvv vt0) w := by kernel_rfl
/-- A vote of an acceptor. -/
def VtOk (v : Vt) : Prop := 0 ≤ v.s ∧ v.s < 512 ∧ 0 ≤ v.b ∧ v.b ≤ 18446744073709551615 ∧ 0 ≤ v.ep ∧ v.ep ≤ 18446744073709551615
/-- Block g is an acceptor that promised p, and has these votes, in the map of block bm. -/
structure AccAt (w : World) (g bm : Nat) (p : Int) (L : List Vt) : Prop where
  cells : w.heap[g]? = some (.cells #[.int .u64 p, .map (some bm)] 106 (0, 0))
  map : MapV Try.prog 3 vvv w bm L
  ok : ∀ v ∈ L, VtOk v
  p0 : 0 ≤ p
  p1 : p ≤ 18446744073709551615
/-- An acceptor's own blocks. -/
def AB (g bm : Nat) : Nat → Prop := fun k => k = g ∨ k = bm
theorem AccAt.kept {S : Nat → Prop} {w w' : World} {g bm : Nat} {p : Int} {L : List Vt} (h : AccAt w g bm p L) (hk : Kept S w w') (hg : ¬ S g) (hb : ¬ S bm) : AccAt w' g bm p L :=
  ⟨hk.heap hg h.cells, h.map.kept hk hb, h.ok, h.p0, h.p1⟩
theorem AccAt.no {w w' : World} {g bm : Nat} {p : Int} {L : List Vt} (h : AccAt w g bm p L) (hk : Kept NoB w w') : AccAt w' g bm p L := h.kept hk (fun h => h) (fun h => h)
theorem AccAt.c {w : World} {g bm : Nat} {p : Int} {L : List Vt} (h : AccAt w g bm p L) :
    w.cell? ⟨g, 0, none⟩ = some (.int .u64 p) ∧ w.cell? ⟨g, 1, none⟩ = some (.map (some bm)) ∧ w.frozen? ⟨g, 0, none⟩ = false ∧ w.frozen? ⟨g, 1, none⟩ = false ∧ g < w.heap.size ∧ bm ≠ g ∧ bm < w.heap.size :=
  ⟨cell_of_row _ _ 0 _ _ _ h.cells, cell_of_row _ _ 1 _ _ _ h.cells, blkA_frozen h.cells 0, blkA_frozen h.cells 1, heap_lt h.cells, h.map.ne h.cells, h.map.lt⟩
theorem ANew_any (w : World) : Calls Try.prog 12 #[] w fun e w' => e = .returned (.pointer (some ⟨w.heap.size + 1, 0, none⟩)) ∧ AccAt w' (w.heap.size + 1) w.heap.size 0 [] ∧ Kept NoB w w' := by
  have hmm := @run_makeMap Try.prog
  have hm := MapV.made Try.prog 3 vvv w
  have hz := heap_alloc_new (w.alloc (.map #[] 0)) (.cells #[.int .u64 0, .map (some w.heap.size)] 106)
  rw [show (w.alloc (.map #[] 0)).heap.size = w.heap.size + 1 by simp] at hz
  have HM := Lib.hid (hm.kept ((Kept.refl NoB (w.alloc (.map #[] 0))).alloc (.cells #[.int .u64 0, .map (some w.heap.size)] 106)) (fun h => h))
  have HZ := Lib.hid hz
  clear hm hz
  go_enter Try.func12, Try.ntmps12
  go_wp2
  go_ret
  exact ⟨by simp, ⟨HZ.out, HM.out, (fun v hv => by cases hv), by omega, by omega⟩, ((Kept.refl NoB w).alloc _).alloc _⟩
theorem APromised_any (w : World) (g bm : Nat) (p : Int) (L : List Vt) (h : AccAt w g bm p L) : Calls Try.prog 65 #[.pointer (some ⟨g, 0, none⟩)] w fun e w' => e = .returned (.int .u64 p) ∧ w = w' := by
  obtain ⟨c0, c1, f0, f1, hg, hne, hb⟩ := h.c
  clear h
  go_enter Try.func65, Try.ntmps65
  go_wp2
  go_ret
  exact ⟨rfl, rfl⟩
theorem APromised_nil (w : World) : Calls Try.prog 65 #[.pointer none] w fun e w' => e = .returned (.int .u64 0) ∧ w = w' := by
  go_enter Try.func65, Try.ntmps65
  go_wp2
  go_ret
  exact ⟨rfl, rfl⟩
theorem ALen_any (w : World) (g bm : Nat) (p : Int) (L : List Vt) (h : AccAt w g bm p L) : Calls Try.prog 66 #[.pointer (some ⟨g, 0, none⟩)] w fun e w' => e = .returned (.int .i64 L.length) ∧ w = w' := by
  obtain ⟨c0, c1, f0, f1, hg, hne, hb⟩ := h.c
  have HM := Lib.hid h.map
  clear h
  go_enter Try.func66, Try.ntmps66
  go_wp2_with (at_len; refine wpList_len_mv _ rfl _ 104 rfl 3 48 Try.underlying104 bm vvv L rfl HM.out ?_)
  go_ret
  exact ⟨rfl, rfl⟩
theorem ALen_nil (w : World) : Calls Try.prog 66 #[.pointer none] w fun e w' => e = .returned (.int .i64 0) ∧ w = w' := by
  go_enter Try.func66, Try.ntmps66
  go_wp2
  go_ret
  exact ⟨rfl, rfl⟩
theorem getD_vv (o : Option Vt) : (o.map vvv).getD (vvv vt0) = vvv (o.getD vt0) := by cases o <;> rfl
/-- A vote in a block's cells. -/
theorem vote_cells {w : World} {b : Nat} {v : Vt} {x0 x1 x2 x3 x4 x5 : Value} (h : w.heap[b]? = some (.cells #[x0, x1, x2, x3, x4, x5] 48 (0, 0))) :
    ((((((w.setCell ⟨b, 0, none⟩ (.int .i64 v.s)).setCell ⟨b, 1, none⟩ (.int .u64 v.b)).setCell ⟨b, 2, none⟩ (.int .i64 v.k)).setCell ⟨b, 3, none⟩ (.int .i64 v.ch)).setCell ⟨b, 4, none⟩ (.int .u64 v.ep)).setCell ⟨b, 5, none⟩ (.int .i64 v.nd)).heap[b]? =
      some (.cells #[.int .i64 v.s, .int .u64 v.b, .int .i64 v.k, .int .i64 v.ch, .int .u64 v.ep, .int .i64 v.nd] 48 (0, 0)) := by
  simp [World.setCell, Array.getElem?_modify, h]
theorem cells6 {w : World} {b : Nat} {v : Vt} (h : w.heap[b]? = some (.cells #[.int .i64 v.s, .int .u64 v.b, .int .i64 v.k, .int .i64 v.ch, .int .u64 v.ep, .int .i64 v.nd] 48 (0, 0))) :
    w.cell? ⟨b, 0, none⟩ = some (.int .i64 v.s) ∧ w.cell? ⟨b, 1, none⟩ = some (.int .u64 v.b) ∧ w.cell? ⟨b, 2, none⟩ = some (.int .i64 v.k) ∧ w.cell? ⟨b, 3, none⟩ = some (.int .i64 v.ch) ∧ w.cell? ⟨b, 4, none⟩ = some (.int .u64 v.ep) ∧ w.cell? ⟨b, 5, none⟩ = some (.int .i64 v.nd) :=
  ⟨cell_of_row _ _ 0 _ _ _ h, cell_of_row _ _ 1 _ _ _ h, cell_of_row _ _ 2 _ _ _ h, cell_of_row _ _ 3 _ _ _ h, cell_of_row _ _ 4 _ _ _ h, cell_of_row _ _ 5 _ _ _ h⟩
set_option maxRecDepth 100000 in
theorem AVote_any (w : World) (g bm : Nat) (p s : Int) (L : List Vt) (h : AccAt w g bm p L) (hwf : (Lit.int .i64 s).wf = true) : Calls Try.prog 118 #[.pointer (some ⟨g, 0, none⟩), .int .i64 s] w fun e w' =>
    e = .returned (.tuple #[vvv ((atV L s).getD vt0), .bool (atV L s).isSome]) ∧ Kept NoB w w' := by
  have HK0 := Lib.hid ((Kept.refl NoB w).alloc (.cells #[.int .i64 0, .int .u64 0, .int .i64 0, .int .i64 0, .int .u64 0, .int .i64 0] 48))
  have h1 := h.no HK0.out
  obtain ⟨c0, c1, f0, f1, hg, hne, hb⟩ := h1.c
  have HM := Lib.hid h1.map
  have HR := Lib.hid (heap_alloc_new w (.cells #[.int .i64 0, .int .u64 0, .int .i64 0, .int .i64 0, .int .u64 0, .int .i64 0] 48))
  have hgl : g < w.heap.size := heap_lt h.cells
  obtain ⟨b, hbb⟩ : ∃ b, b = (atV L s).isSome := ⟨_, rfl⟩
  obtain ⟨⟨y0, y1, y2, y3, y4, y5⟩, hv⟩ : ∃ v, v = (atV L s).getD vt0 := ⟨_, rfl⟩
  have HBB := Lib.hid hbb
  have HV := Lib.hid hv
  rw [← hbb, ← hv]
  clear h h1 hbb hv
  go_enter Try.func118, Try.ntmps118
  go_wp2_with (at_lookup; refine wpList_look_mv _ rfl _ _ 104 rfl 3 48 Try.underlying3 Try.underlying104 (vvv vt0) (zero_vote _) bm vvv L s rfl HM.out rfl hwf ?_; rw [getD_vv, ← HBB.out, ← HV.out, show vvv ⟨y0, y1, y2, y3, y4, y5⟩ = .agg #[.int .i64 y0, .int .u64 y1, .int .i64 y2, .int .i64 y3, .int .u64 y4, .int .i64 y5] from rfl])
  have h1 := heap_alloc_new w (.cells #[.int .i64 y0, .int .u64 y1, .int .i64 y2, .int .i64 y3, .int .u64 y4, .int .i64 y5] 48)
  have h2 := blkA_alloc h1 (.cells #[.int .i64 y0, .int .u64 y1, .int .i64 y2, .int .i64 y3, .int .u64 y4, .int .i64 y5] 48)
  obtain ⟨r0, r1, r2, r3, r4, r5⟩ := cells6 (v := ⟨y0, y1, y2, y3, y4, y5⟩) h2
  have hk2 : Kept NoB w ((w.alloc (.cells #[.int .i64 y0, .int .u64 y1, .int .i64 y2, .int .i64 y3, .int .u64 y4, .int .i64 y5] 48)).alloc (.cells #[.int .i64 y0, .int .u64 y1, .int .i64 y2, .int .i64 y3, .int .u64 y4, .int .i64 y5] 48)) := ((Kept.refl _ _).alloc _).alloc _
  clear h1 h2
  generalize hW : World.alloc (World.alloc _ _) _ = W at r0 r1 r2 r3 r4 r5 hk2 ⊢
  exact bodyPost_ret (v := .tuple #[.agg #[.int .i64 y0, .int .u64 y1, .int .i64 y2, .int .i64 y3, .int .u64 y4, .int .i64 y5], .bool b]) (by simp [results, Try.results118, go_sem, r0, r1, r2, r3, r4, r5]) rfl ⟨rfl, hk2⟩
theorem AVote_nil (w : World) (s : Int) : Calls Try.prog 118 #[.pointer none, .int .i64 s] w fun e w' => e = .returned (.tuple #[vvv vt0, .bool false]) ∧ Kept NoB w w' := by
  go_enter Try.func118, Try.ntmps118
  go_wp2
  have h1 := heap_alloc_new w (.cells #[.int .i64 0, .int .u64 0, .int .i64 0, .int .i64 0, .int .u64 0, .int .i64 0] 48)
  obtain ⟨r0, r1, r2, r3, r4, r5⟩ := cells6 (v := vt0) h1
  have hk2 : Kept NoB w (w.alloc (.cells #[.int .i64 0, .int .u64 0, .int .i64 0, .int .i64 0, .int .u64 0, .int .i64 0] 48)) := (Kept.refl _ _).alloc _
  clear h1
  generalize hW : World.alloc _ _ = W at r0 r1 r2 r3 r4 r5 hk2 ⊢
  exact bodyPost_ret (v := .tuple #[.agg #[.int .i64 0, .int .u64 0, .int .i64 0, .int .i64 0, .int .u64 0, .int .i64 0], .bool false]) (by simp [results, Try.results118, go_sem, r0, r1, r2, r3, r4, r5]; simp [vt0]) rfl ⟨rfl, hk2⟩
end Go.Proofs.Ytidhaofojcdbaaa
