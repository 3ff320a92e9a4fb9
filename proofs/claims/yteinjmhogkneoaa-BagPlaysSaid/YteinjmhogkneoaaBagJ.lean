/-
  The law's step: Put and Twice.
-/
import Derived.Test.YteinjmhogkneoaaBagT
import Derived.Test.YteinjmhogkneoaaBagR
namespace Go.Proofs.Yteinjmhogkneoaa
open Go.RowKit Go.Shelf
set_option linter.unusedVariables false

/-- The variables of step that lie in memory: the chapter's bag, the call, the answer. -/
structure SB (w0 w : World) (most last : Int) (a : Option Addr) (n c : Nat) (kd i v : Int) (W : World) : Prop where
  bag : W.heap[w.heap.size]? = some (.cells #[.int .i64 most, .int .i64 last, .slice a n c] 27 (0, 0))
  op : W.heap[w.heap.size + 1]? = some (.cells #[.int .i64 kd, .int .i64 i, .int .i64 v] 31 (0, 0))
  out : W.heap[w.heap.size + 1 + 1]? = some (.cells #[.int .i64 0, .int .i64 0, .slice none 0 0] 27 (0, 0))
  low : w0.heap.size ≤ w.heap.size
  kept : Kept NoB w0 W
  old : ∀ (k : Nat) (cs : Array Value) (fr : Nat × Nat), w.heap[k]? = some (.cells cs 27 fr) → W.heap[k]? = some (.cells cs 27 fr)
theorem SB.no {w0 w W W' : World} {most last : Int} {a : Option Addr} {n c : Nat} {kd i v : Int} (h : SB w0 w most last a n c kd i v W) (hk : Kept NoB W W') : SB w0 w most last a n c kd i v W' :=
  ⟨hk.heap (fun h => h) h.bag, hk.heap (fun h => h) h.op, hk.heap (fun h => h) h.out, h.low, h.kept.trans hk (fun _ _ h => h), fun k cs fr hh => hk.heap (fun h => h) (h.old k cs fr hh)⟩
theorem SB.turn {w0 w W W' : World} {most last : Int} {a : Option Addr} {n c : Nat} {kd i v : Int} (h : SB w0 w most last a n c kd i v W) {B g : Nat} {row : Option Nat} {mb la : Int} {l : List It} (hb : Bg B W g row mb la l) (hB : w0.heap.size ≤ B) (hk : Kept (Tw g row) W W') : SB w0 w most last a n c kd i v W' :=
  ⟨hk.heap (hb.apart h.bag (by decide) (by decide)) h.bag, hk.heap (hb.apart h.op (by decide) (by decide)) h.op, hk.heap (hb.apart h.out (by decide) (by decide)) h.out, h.low, hb.frame h.kept hk hB, fun k cs fr hh => hk.heap (hb.apart (h.old k cs fr hh) (by decide) (by decide)) (h.old k cs fr hh)⟩
theorem RRow.turn {B B' g : Nat} {row : Option Nat} {mb la : Int} {l l' : List It} {W W' : World} {a : Option Addr} {c : Nat} (h : RRow B' W a c l') (hb : Bg B W g row mb la l) (hk : Kept (Tw g row) W W') : RRow B' W' a c l' :=
  h.kept hk (fun k cs fr hh => hb.apart hh (by decide) (by decide))
theorem SB.cells {w0 w W : World} {most last : Int} {a : Option Addr} {n c : Nat} {kd i v : Int} (h : SB w0 w most last a n c kd i v W) :
    W.cell? ⟨w.heap.size, 0, none⟩ = some (.int .i64 most) ∧ W.cell? ⟨w.heap.size, 1, none⟩ = some (.int .i64 last) ∧ W.cell? ⟨w.heap.size, 2, none⟩ = some (.slice a n c) ∧
    W.cell? ⟨w.heap.size + 1, 0, none⟩ = some (.int .i64 kd) ∧ W.cell? ⟨w.heap.size + 1, 1, none⟩ = some (.int .i64 i) ∧ W.cell? ⟨w.heap.size + 1, 2, none⟩ = some (.int .i64 v) :=
  ⟨cell_of_row _ _ 0 _ _ _ h.bag, cell_of_row _ _ 1 _ _ _ h.bag, cell_of_row _ _ 2 _ _ _ h.bag, cell_of_row _ _ 0 _ _ _ h.op, cell_of_row _ _ 1 _ _ _ h.op, cell_of_row _ _ 2 _ _ _ h.op⟩
theorem SB.outs {w0 w W : World} {most last : Int} {a : Option Addr} {n c : Nat} {kd i v : Int} (h : SB w0 w most last a n c kd i v W) :
    W.cell? ⟨w.heap.size + 1 + 1, 0, none⟩ = some (.int .i64 0) ∧ W.cell? ⟨w.heap.size + 1 + 1, 1, none⟩ = some (.int .i64 0) ∧ W.cell? ⟨w.heap.size + 1 + 1, 2, none⟩ = some (.slice none 0 0) ∧
    W.frozen? ⟨w.heap.size + 1 + 1, 0, none⟩ = false ∧ W.frozen? ⟨w.heap.size + 1 + 1, 1, none⟩ = false ∧ W.frozen? ⟨w.heap.size + 1 + 1, 2, none⟩ = false :=
  ⟨cell_of_row _ _ 0 _ _ _ h.out, cell_of_row _ _ 1 _ _ _ h.out, cell_of_row _ _ 2 _ _ _ h.out, blk_frozen0 h.out 0, blk_frozen0 h.out 1, blk_frozen0 h.out 2⟩
/-- What a step leaves, but for its ending. -/
def StW (w0 w : World) (B g : Nat) (most last : Int) (n : Nat) (v : Value) (w' : World) : Prop :=
  ∃ (last' : Int) (l' : List It) (row' : Option Nat) (a' : Option Addr) (c' : Nat), v = rbv most last' a' l'.length c' ∧ Bg B w' g row' (max most 0) last' l' ∧ RRow B w' a' c' l' ∧ Inc last' l' ∧ l'.length ≤ n + 1 ∧ last ≤ last' ∧ last' ≤ last + 1 ∧ Kept NoB w0 w' ∧ ∀ (k : Nat) (cs : Array Value) (fr : Nat × Nat), w.heap[k]? = some (.cells cs 27 fr) → w'.heap[k]? = some (.cells cs 27 fr)
theorem StW.drew {w0 w : World} {B g : Nat} {most last : Int} {n : Nat} {v : Value} {w' : World} (h : StW w0 w B g most last n v w') : StW w0 w B g most last n v w'.drew := by
  obtain ⟨la, l', row', a', c', h1, h2, h3, h4, h5, h6, h7, h8, h9⟩ := h
  exact ⟨la, l', row', a', c', h1, h2, h3, h4, h5, h6, h7, h8.drew, h9⟩
/-- What a step leaves. -/
def StQ (w0 w : World) (B g : Nat) (most last : Int) (n : Nat) (e : Ending) (w' : World) : Prop := ∃ v, e = .returned (.tuple #[v, .bool true]) ∧ StW w0 w B g most last n v w'
theorem st_end {w0 w W : World} {most last last' la2 : Int} {a a' : Option Addr} {n c c' n0 B g : Nat} {kd i v : Int} {l' : List It} {row' : Option Nat} (h : SB w0 w most la2 a n c kd i v W) (hb : Bg B W g row' (max most 0) last' l') (hr : RRow B W a' c' l') (hi : Inc last' l') (hn : l'.length ≤ n0 + 1) (h1 : last ≤ last') (h2 : last' ≤ last + 1) :
    StW w0 w B g most last n0 (rbv most last' a' l'.length c') (((W.setCell ⟨w.heap.size + 1 + 1, 0, none⟩ (.int .i64 most)).setCell ⟨w.heap.size + 1 + 1, 1, none⟩ (.int .i64 last')).setCell ⟨w.heap.size + 1 + 1, 2, none⟩ (.slice a' l'.length c')) ∧
    (((W.setCell ⟨w.heap.size + 1 + 1, 0, none⟩ (.int .i64 most)).setCell ⟨w.heap.size + 1 + 1, 1, none⟩ (.int .i64 last')).setCell ⟨w.heap.size + 1 + 1, 2, none⟩ (.slice a' l'.length c')).cell? ⟨w.heap.size + 1 + 1, 0, none⟩ = some (.int .i64 most) ∧
    (((W.setCell ⟨w.heap.size + 1 + 1, 0, none⟩ (.int .i64 most)).setCell ⟨w.heap.size + 1 + 1, 1, none⟩ (.int .i64 last')).setCell ⟨w.heap.size + 1 + 1, 2, none⟩ (.slice a' l'.length c')).cell? ⟨w.heap.size + 1 + 1, 1, none⟩ = some (.int .i64 last') ∧
    (((W.setCell ⟨w.heap.size + 1 + 1, 0, none⟩ (.int .i64 most)).setCell ⟨w.heap.size + 1 + 1, 1, none⟩ (.int .i64 last')).setCell ⟨w.heap.size + 1 + 1, 2, none⟩ (.slice a' l'.length c')).cell? ⟨w.heap.size + 1 + 1, 2, none⟩ = some (.slice a' l'.length c') := by
  have hlo := h.low
  obtain ⟨⟨_, _, _, hr1, hk1⟩, p0, p1, p2⟩ := rb_ret (last := last') (most := most) h.out hr h.kept (by omega)
  obtain ⟨_, _, _, _, _, _, hown, hrow, hgl, hh⟩ := hb.cells
  have hko := Kept.one (Kept.one (Kept.one (Kept.refl (One (w.heap.size + 1 + 1)) W) 0 (.int .i64 most)) 1 (.int .i64 last')) 2 (.slice a' l'.length c')
  refine ⟨⟨last', l', row', a', c', rfl, hb.kept hko (fun h2 => blk_ne hh h.out (by decide) h2) (fun r hr' h9 => ?_), RRow.kept hr hko (fun k cs fr hh2 h9 => blk_ne hh2 h.out (by decide) h9), hi, hn, h1, h2, hk1, fun k cs fr hh2 => ?_⟩, p0, p1, p2⟩
  rotate_left
  · have hlt := heap_lt hh2
    have hne : w.heap.size + 1 + 1 ≠ k := by omega
    exact blk_set_other (blk_set_other (blk_set_other (h.old k cs fr hh2) 0 _ (by omega)) 1 _ (by omega)) 2 _ (by omega)
  have h9 : r = w.heap.size + 1 + 1 := h9
  subst h9
  rcases hown.2 with ⟨hv, _⟩ | ⟨r2, cap, cur, hv, _, hh2, _⟩
  · rw [hv] at hrow; rw [← hrow] at hr'; cases hr'
  · rw [hv] at hrow
    rw [← hrow] at hr'
    injection hr' with hr'
    subst hr'
    exact blk_ne h.out hh2 (by decide) rfl
theorem sb_start (w0 w : World) (most last : Int) (a : Option Addr) (n c : Nat) (kd i v : Int) (h0 : Kept NoB w0 w) : SB w0 w most last a n c kd i v (((w.alloc (.cells #[.int .i64 most, .int .i64 last, .slice a n c] 27)).alloc (.cells #[.int .i64 kd, .int .i64 i, .int .i64 v] 31)).alloc (.cells #[.int .i64 0, .int .i64 0, .slice none 0 0] 27)) := by
  obtain ⟨h1, h2, h3⟩ := three w (.cells #[.int .i64 most, .int .i64 last, .slice a n c] 27) (.cells #[.int .i64 kd, .int .i64 i, .int .i64 v] 31) (.cells #[.int .i64 0, .int .i64 0, .slice none 0 0] 27)
  exact ⟨h1, h2, h3, h0.size, ((h0.alloc _).alloc _).alloc _, fun k cs fr hh => blk_alloc (blk_alloc (blk_alloc hh _) _) _⟩
/-- The chapter's Put and the bag's, told together. -/
theorem put_key (B g : Nat) (row : Option Nat) (most last : Int) (a : Option Addr) (c : Nat) (l : List It) (v : Int) (hinc : Inc last l) (hl : l.length ≤ 1000) (hla : 0 ≤ last) (hla2 : last ≤ 1000) :
    ∃ (last' no er : Int) (l' : List It), Inc last' l' ∧ l'.length ≤ l.length + 1 ∧ last ≤ last' ∧ last' ≤ last + 1 ∧
      (∀ W, B ≤ W.heap.size → RRow B W a c l → Calls Try.prog 23 #[rbv most last a l.length c, .int .i64 v] W fun e w' => ∃ b, e = .returned (.tuple #[b, .int .i64 no, .int .i64 er]) ∧ RB B W most last' l' b w') ∧
      (∀ W, B ≤ W.heap.size → Bg B W g row (max most 0) last l → Calls Try.prog 12 #[.pointer (some ⟨g, 0, none⟩), .int .i64 v] W fun e w' => e = .returned (.tuple #[.int .i64 no, .int .i64 er]) ∧ ∃ row', Bg B w' g row' (max most 0) last' l' ∧ Kept (Tw g row) W w') := by
  by_cases hf : (l.length : Int) < max most 0
  · refine ⟨last + 1, last + 1, 0, l ++ [(last + 1, v)], hinc.put hla v, by simp, by omega, by omega, fun W hW hrW => RPut_yes B most last a c l v W hrW hf (by omega) hla (by omega) hW, fun W hW hbW => ?_⟩
    refine (Put_any B g row (max most 0) last l v W hbW hf (by omega) hla (by omega) hW).mono ?_
    rintro e w' ⟨rfl, row', h1, h2, _⟩
    exact ⟨rfl, row', h1, h2⟩
  · refine ⟨last, 0, 9, l, hinc, by omega, by omega, by omega, fun W hW hrW => RPut_full B most last a c l v W hrW (by omega), fun W hW hbW => ?_⟩
    refine (Put_full B g row (max most 0) last l v W hbW (by omega)).mono ?_
    rintro e w' ⟨rfl, q, rfl⟩
    exact ⟨rfl, row, hbW.drewN q, (Kept.refl _ _).drewN q⟩
/-- The chapter's Twice and the bag's, told together. -/
theorem twice_key (B g : Nat) (row : Option Nat) (most last : Int) (a : Option Addr) (c : Nat) (l : List It) (i : Int) (hinc : Inc last l) (hl : l.length ≤ 1000) (hla : 0 ≤ last) (hla2 : last ≤ 1000) :
    ∃ (last' no er : Int) (l' : List It), Inc last' l' ∧ l'.length ≤ l.length + 1 ∧ last ≤ last' ∧ last' ≤ last + 1 ∧
      (∀ W, B ≤ W.heap.size → RRow B W a c l → Calls Try.prog 24 #[rbv most last a l.length c, .int .i64 i] W fun e w' => ∃ b, e = .returned (.tuple #[b, .int .i64 no, .int .i64 er]) ∧ RB B W most last' l' b w') ∧
      (∀ W, B ≤ W.heap.size → Bg B W g row (max most 0) last l → Calls Try.prog 13 #[.pointer (some ⟨g, 0, none⟩), .int .i64 i] W fun e w' => e = .returned (.tuple #[.int .i64 no, .int .i64 er]) ∧ ∃ row', Bg B w' g row' (max most 0) last' l' ∧ Kept (Tw g row) W w') := by
  by_cases hin : 0 ≤ i ∧ i < (l.length : Int)
  · obtain ⟨k, rfl⟩ : ∃ k : Nat, i = k := ⟨i.toNat, by omega⟩
    obtain ⟨last', no, er, l', h1, h2, h3, h4, h5, h6⟩ := put_key B g row most last a c l (nth l k).2 hinc hl hla hla2
    refine ⟨last', no, er, l', h1, h2, h3, h4, fun W hW hrW => RTwice_put B most last last' no er a c l l' k W hrW (by omega) (fun W' hk' => h5 W' (Nat.le_trans hW hk'.size) (hrW.no hk')), fun W hW hbW => Twice_put B g row (max most 0) last l k W hbW (by omega) _ ?_⟩
    refine (h6 W hW hbW).mono ?_
    rintro e w' ⟨rfl, row', h7, h8⟩
    exact ⟨no, er, rfl, rfl, row', h7, h8⟩
  · refine ⟨last, 0, 7, l, hinc, by omega, by omega, by omega, fun W hW hrW => RTwice_no B most last a c l i W hrW (by omega), fun W hW hbW => ?_⟩
    refine (Twice_no B g row (max most 0) last l i W hbW (by omega)).mono ?_
    rintro e w' ⟨rfl, rfl⟩
    exact ⟨rfl, row, hbW, Kept.refl _ _⟩
set_option maxRecDepth 100000 in
set_option maxHeartbeats 2000000 in
theorem step0 (w0 : World) (B g : Nat) (row : Option Nat) (most last : Int) (a : Option Addr) (c : Nat) (l : List It) (i v : Int) (w : World) (h0 : Kept NoB w0 w) (hB0 : w0.heap.size ≤ B) (hBw : B ≤ w.heap.size) (hb : Bg B w g row (max most 0) last l) (hr : RRow B w a c l) (hinc : Inc last l) (hl : l.length ≤ 1000) (hla : 0 ≤ last) (hla2 : last ≤ 1000) :
    Calls Try.prog 8 #[.pointer (some ⟨g, 0, none⟩), rbv most last a l.length c, .agg #[.int .i64 0, .int .i64 i, .int .i64 v]] w (StQ w0 w B g most last l.length) := by
  have SB0 := sb_start w0 w most last a l.length c 0 i v h0
  have hk0 := (((Kept.refl NoB w).alloc (.cells #[.int .i64 most, .int .i64 last, .slice a l.length c] 27)).alloc (.cells #[.int .i64 0, .int .i64 i, .int .i64 v] 31)).alloc (.cells #[.int .i64 0, .int .i64 0, .slice none 0 0] 27)
  have HB := Lib.hid (hb.keptNo hk0)
  have HR := Lib.hid (hr.no hk0)
  have HS := Lib.hid SB0
  have hsz := hk0.size
  obtain ⟨last', no, er, l', hinc', hl', ha1, ha2, hcr, hcb⟩ := put_key B g row most last a c l v hinc hl hla hla2
  have HCR := Lib.hid hcr
  have HCB := Lib.hid hcb
  have HI := Lib.hid hinc'
  clear hcr hcb hinc' hb hr hinc SB0 hk0
  go_enter Try.func8, Try.ntmps8
  go_wp2_with fail
  refine (HCR.out _ (by omega) HR.out).mono ?_
  rintro e w3 ⟨b, rfl, a3, c3, rfl, hr3, hk3⟩
  have hs3 := hk3.size
  have hkA := hk3.trans ((Kept.refl NoB w3).alloc (.cells #[.int .i64 most, .int .i64 last', .slice a3 l'.length c3] 27)) (fun _ _ h => h)
  have SA := HS.out.no hkA
  have BA := HB.out.keptNo hkA
  have RA := hr3.alloc (.cells #[.int .i64 most, .int .i64 last', .slice a3 l'.length c3] 27)
  have T8 := heap_alloc_new w3 (.cells #[.int .i64 most, .int .i64 last', .slice a3 l'.length c3] 27)
  have HSA := Lib.hid SA
  have HBA := Lib.hid BA
  have HRA := Lib.hid RA
  have HT8 := Lib.hid T8
  have q5 := SA.cells.2.2.2.2.2
  clear SA BA RA T8 hkA hr3 hk3
  go_wp2_with fail
  refine (HCB.out _ (by simp; omega) HBA.out).mono ?_
  rintro e w4 ⟨rfl, row', hb4, hk4⟩
  have hs4 := HSA.out.turn HBA.out hB0 hk4
  have hr4 := HRA.out.turn HBA.out hk4
  have ht8 := hk4.heap (HBA.out.apart HT8.out (by decide) (by decide)) HT8.out
  have t0 : w4.cell? ⟨w3.heap.size, 0, none⟩ = some (.int .i64 most) := cell_of_row _ _ 0 _ _ _ ht8
  have t1 : w4.cell? ⟨w3.heap.size, 1, none⟩ = some (.int .i64 last') := cell_of_row _ _ 1 _ _ _ ht8
  have t2 : w4.cell? ⟨w3.heap.size, 2, none⟩ = some (.slice a3 l'.length c3) := cell_of_row _ _ 2 _ _ _ ht8
  obtain ⟨v0, v1, v2, s0, s1, s2⟩ := hs4.outs
  have HEND := Lib.hid (st_end (n0 := l.length) hs4 hb4 hr4 HI.out hl' ha1 ha2)
  clear hs4 hr4 ht8 hb4 hk4
  go_wp2
  obtain ⟨h1, p0, p1, p2⟩ := HEND.out
  refine bodyPost_ret (v := .tuple #[rbv most last' a3 l'.length c3, .bool true]) ?_ rfl ⟨_, rfl, h1⟩
  simp [results, Try.results8, go_sem, p0, p1, p2]
set_option maxRecDepth 100000 in
set_option maxHeartbeats 2000000 in
theorem step1 (w0 : World) (B g : Nat) (row : Option Nat) (most last : Int) (a : Option Addr) (c : Nat) (l : List It) (i v : Int) (w : World) (h0 : Kept NoB w0 w) (hB0 : w0.heap.size ≤ B) (hBw : B ≤ w.heap.size) (hb : Bg B w g row (max most 0) last l) (hr : RRow B w a c l) (hinc : Inc last l) (hl : l.length ≤ 1000) (hla : 0 ≤ last) (hla2 : last ≤ 1000) :
    Calls Try.prog 8 #[.pointer (some ⟨g, 0, none⟩), rbv most last a l.length c, .agg #[.int .i64 1, .int .i64 i, .int .i64 v]] w (StQ w0 w B g most last l.length) := by
  have SB0 := sb_start w0 w most last a l.length c 1 i v h0
  have hk0 := (((Kept.refl NoB w).alloc (.cells #[.int .i64 most, .int .i64 last, .slice a l.length c] 27)).alloc (.cells #[.int .i64 1, .int .i64 i, .int .i64 v] 31)).alloc (.cells #[.int .i64 0, .int .i64 0, .slice none 0 0] 27)
  have HB := Lib.hid (hb.keptNo hk0)
  have HR := Lib.hid (hr.no hk0)
  have HS := Lib.hid SB0
  have hsz := hk0.size
  obtain ⟨last', no, er, l', hinc', hl', ha1, ha2, hcr, hcb⟩ := twice_key B g row most last a c l i hinc hl hla hla2
  have HCR := Lib.hid hcr
  have HCB := Lib.hid hcb
  have HI := Lib.hid hinc'
  clear hcr hcb hinc' hb hr hinc SB0 hk0
  go_enter Try.func8, Try.ntmps8
  go_wp2_with fail
  refine (HCR.out _ (by omega) HR.out).mono ?_
  rintro e w3 ⟨b, rfl, a3, c3, rfl, hr3, hk3⟩
  have hs3 := hk3.size
  have hkA := hk3.trans ((Kept.refl NoB w3).alloc (.cells #[.int .i64 most, .int .i64 last', .slice a3 l'.length c3] 27)) (fun _ _ h => h)
  have SA := HS.out.no hkA
  have BA := HB.out.keptNo hkA
  have RA := hr3.alloc (.cells #[.int .i64 most, .int .i64 last', .slice a3 l'.length c3] 27)
  have T8 := heap_alloc_new w3 (.cells #[.int .i64 most, .int .i64 last', .slice a3 l'.length c3] 27)
  have HSA := Lib.hid SA
  have HBA := Lib.hid BA
  have HRA := Lib.hid RA
  have HT8 := Lib.hid T8
  have q5 := SA.cells.2.2.2.2.1
  clear SA BA RA T8 hkA hr3 hk3
  go_wp2_with fail
  refine (HCB.out _ (by simp; omega) HBA.out).mono ?_
  rintro e w4 ⟨rfl, row', hb4, hk4⟩
  have hs4 := HSA.out.turn HBA.out hB0 hk4
  have hr4 := HRA.out.turn HBA.out hk4
  have ht8 := hk4.heap (HBA.out.apart HT8.out (by decide) (by decide)) HT8.out
  have t0 : w4.cell? ⟨w3.heap.size, 0, none⟩ = some (.int .i64 most) := cell_of_row _ _ 0 _ _ _ ht8
  have t1 : w4.cell? ⟨w3.heap.size, 1, none⟩ = some (.int .i64 last') := cell_of_row _ _ 1 _ _ _ ht8
  have t2 : w4.cell? ⟨w3.heap.size, 2, none⟩ = some (.slice a3 l'.length c3) := cell_of_row _ _ 2 _ _ _ ht8
  obtain ⟨v0, v1, v2, s0, s1, s2⟩ := hs4.outs
  have HEND := Lib.hid (st_end (n0 := l.length) hs4 hb4 hr4 HI.out hl' ha1 ha2)
  clear hs4 hr4 ht8 hb4 hk4
  go_wp2
  obtain ⟨h1, p0, p1, p2⟩ := HEND.out
  refine bodyPost_ret (v := .tuple #[rbv most last' a3 l'.length c3, .bool true]) ?_ rfl ⟨_, rfl, h1⟩
  simp [results, Try.results8, go_sem, p0, p1, p2]
end Go.Proofs.Yteinjmhogkneoaa
