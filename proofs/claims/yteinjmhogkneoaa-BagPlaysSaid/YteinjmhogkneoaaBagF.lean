/-
  The chapter's Set.
-/
import Derived.Test.YteinjmhogkneoaaBagE
namespace Go.Proofs.Yteinjmhogkneoaa
open Go.RowKit
set_option linter.unusedVariables false

/-- A bag that came in, and the cells of the answer. -/
structure RS (w W : World) (most last : Int) (a : Option Addr) (n c : Nat) : Prop where
  inn : W.heap[w.heap.size]? = some (.cells #[.int .i64 most, .int .i64 last, .slice a n c] 27 (0, 0))
  out : W.heap[w.heap.size + 1]? = some (.cells #[.int .i64 0, .int .i64 0, .slice none 0 0] 27 (0, 0))
  kept : Kept NoB w W
theorem rs_start (w : World) (most last : Int) (a : Option Addr) (n c : Nat) : RS w ((w.alloc (.cells #[.int .i64 most, .int .i64 last, .slice a n c] 27)).alloc (.cells #[.int .i64 0, .int .i64 0, .slice none 0 0] 27)) most last a n c := by
  have hz := blk_alloc (heap_alloc_new w (.cells #[.int .i64 most, .int .i64 last, .slice a n c] 27)) (.cells #[.int .i64 0, .int .i64 0, .slice none 0 0] 27)
  have hy := heap_alloc_new (w.alloc (.cells #[.int .i64 most, .int .i64 last, .slice a n c] 27)) (.cells #[.int .i64 0, .int .i64 0, .slice none 0 0] 27)
  rw [show (w.alloc (.cells #[.int .i64 most, .int .i64 last, .slice a n c] 27)).heap.size = w.heap.size + 1 by simp] at hy
  exact ⟨hz, hy, ((Kept.refl NoB w).alloc _).alloc _⟩
theorem RS.no {w W W' : World} {most last : Int} {a : Option Addr} {n c : Nat} (h : RS w W most last a n c) (hk : Kept NoB W W') : RS w W' most last a n c :=
  ⟨hk.heap (fun h => h) h.inn, hk.heap (fun h => h) h.out, h.kept.trans hk (fun _ _ h => h)⟩
theorem RS.cells {w W : World} {most last : Int} {a : Option Addr} {n c : Nat} (h : RS w W most last a n c) :
    W.cell? ⟨w.heap.size, 0, none⟩ = some (.int .i64 most) ∧ W.cell? ⟨w.heap.size, 1, none⟩ = some (.int .i64 last) ∧ W.cell? ⟨w.heap.size, 2, none⟩ = some (.slice a n c) :=
  ⟨cell_of_row _ _ 0 _ _ _ h.inn, cell_of_row _ _ 1 _ _ _ h.inn, cell_of_row _ _ 2 _ _ _ h.inn⟩
theorem RS.frz {w W : World} {most last : Int} {a : Option Addr} {n c : Nat} (h : RS w W most last a n c) (o : Nat) : W.frozen? ⟨w.heap.size, o, none⟩ = false ∧ W.frozen? ⟨w.heap.size + 1, o, none⟩ = false := ⟨blk_frozen0 h.inn o, blk_frozen0 h.out o⟩
theorem RS.ins {w W : World} {most last : Int} {a : Option Addr} {n c : Nat} (h : RS w W most last a n c) :
    W.cell? ⟨w.heap.size + 1, 0, none⟩ = some (.int .i64 0) ∧ W.cell? ⟨w.heap.size + 1, 1, none⟩ = some (.int .i64 0) ∧ W.cell? ⟨w.heap.size + 1, 2, none⟩ = some (.slice none 0 0) :=
  ⟨cell_of_row _ _ 0 _ _ _ h.out, cell_of_row _ _ 1 _ _ _ h.out, cell_of_row _ _ 2 _ _ _ h.out⟩

theorem RS.set2 {w W : World} {most last : Int} {a : Option Addr} {n c : Nat} (h : RS w W most last a n c) (a' : Option Addr) (n' c' : Nat) : RS w (W.setCell ⟨w.heap.size, 2, none⟩ (.slice a' n' c')) most last a' n' c' :=
  ⟨blk_set h.inn 2 _, blk_set_other h.out 2 _ (by omega), h.kept.setCell (p := ⟨w.heap.size, 2, none⟩) (.inr (Nat.le_refl _)) _⟩
theorem RS.set1 {w W : World} {most last : Int} {a : Option Addr} {n c : Nat} (h : RS w W most last a n c) (last' : Int) : RS w (W.setCell ⟨w.heap.size, 1, none⟩ (.int .i64 last')) most last' a n c :=
  ⟨blk_set h.inn 1 _, blk_set_other h.out 1 _ (by omega), h.kept.setCell (p := ⟨w.heap.size, 1, none⟩) (.inr (Nat.le_refl _)) _⟩
/-- A row of items, behind a store to the bag that came in. -/
theorem RS.row {w W : World} {most last : Int} {a : Option Addr} {n c : Nat} (h : RS w W most last a n c) {B : Nat} {a' : Option Addr} {c' : Nat} {l : List It} (hr : RRow B W a' c' l) (o : Nat) (v : Value) : RRow B (W.setCell ⟨w.heap.size, o, none⟩ v) a' c' l :=
  RRow.kept (S := One w.heap.size) hr (Kept.one (Kept.refl _ _) o v) (fun k cs fr hh hk => by
    have hk : k = w.heap.size := hk
    subst hk
    rw [h.inn] at hh
    injection hh with hh
    injection hh with _ hh
    cases hh)
theorem wp_copy_src {P : Program} (w : World) {o : Oper} {a : Act} {K : Act → World → Prop} {Q : Exit → Act → World → Prop} (s x : Operand) (t : TypeId)
    (ho : o.op = .call { callee := .builtin .append, args := #[s, x], argTypes := #[t, t] })
    (e : TypeId) (i : TypeInfo) (z : Value) (ht : P.underlying t = some (.slice e)) (hi : P.info? e = some i) (hz : i.zero = some z)
    (hsize : i.size = 2) (hby : i.bytes = 16) (hzs : z.cells.size = 2)
    (hs : a.eval s = .slice none 0 0) (y : Value) (l : List It) (hx : a.eval x = y) (hy : Src w y l) (hbytes : l.length ≤ 1000000)
    (h : ∀ a' c' w', w'.ownsRow w.heap.size e 2 (.slice a' l.length c') l.length (cel l) → Kept NoB w w' → K (a.put o.dst (.slice a' l.length c')) w') : o.wp P a w K Q := by
  refine wp_append_src w s x t ho w.heap.size e i z ht hi hz hsize hby hzs (.slice none 0 0) 0 [] hs (World.ownsRow_nil _ _ _ _) y l hx hy (by omega) (Nat.le_refl _) fun a' c' w' h2 h3 _ => ?_
  rw [Nat.zero_add] at h2 ⊢
  rw [List.nil_append] at h2
  exact h a' c' w' h2 ((Kept.refl NoB w).grown h3 (fun k hk => by cases hk))
theorem wpList_copy_src {P : Program} (w : World) {ops : Array Oper} {rest : List Oper} {o : Oper} {a : Act} {Q : Exit → Act → World → Prop} (hgd : o.guard = none) (s x : Operand) (t : TypeId)
    (ho : o.op = .call { callee := .builtin .append, args := #[s, x], argTypes := #[t, t] })
    (e : TypeId) (i : TypeInfo) (z : Value) (ht : P.underlying t = some (.slice e)) (hi : P.info? e = some i) (hz : i.zero = some z)
    (hsize : i.size = 2) (hby : i.bytes = 16) (hzs : z.cells.size = 2)
    (hs : a.eval s = .slice none 0 0) (y : Value) (l : List It) (hx : a.eval x = y) (hy : Src w y l) (hbytes : l.length ≤ 1000000)
    (h : ∀ a' c' w', w'.ownsRow w.heap.size e 2 (.slice a' l.length c') l.length (cel l) → Kept NoB w w' → wpList P ops Q rest (a.put o.dst (.slice a' l.length c')) w') : wpList P ops Q (o :: rest) a w :=
  wpList_plain hgd fun _ hK => wp_copy_src w s x t ho e i z ht hi hz hsize hby hzs hs y l hx hy hbytes fun a' c' w' h2 h3 => hK _ _ (h a' c' w' h2 h3)
theorem step_copy_src {P : Program} (w : World) {ops : Array Oper} {o : Oper} {a : Act} {K : Act → World → Prop} {Q : Exit → Act → World → Prop} {E : Prop} (hgd : o.guard = none) (s x : Operand) (t : TypeId)
    (ho : o.op = .call { callee := .builtin .append, args := #[s, x], argTypes := #[t, t] })
    (e : TypeId) (i : TypeInfo) (z : Value) (ht : P.underlying t = some (.slice e)) (hi : P.info? e = some i) (hz : i.zero = some z)
    (hsize : i.size = 2) (hby : i.bytes = 16) (hzs : z.cells.size = 2)
    (hs : a.eval s = .slice none 0 0) (y : Value) (l : List It) (hx : a.eval x = y) (hy : Src w y l) (hbytes : l.length ≤ 1000000)
    (h : ∀ a' c' w', w'.ownsRow w.heap.size e 2 (.slice a' l.length c') l.length (cel l) → Kept NoB w w' → K (a.put o.dst (.slice a' l.length c')) w') :
    if Region.wanted o (yielded ops a.tmps) = true then Oper.wp P o a w K Q else E := by
  have hw : Region.wanted o (yielded ops a.tmps) = true := by simp [Region.wanted, hgd]
  rw [if_pos hw]
  exact wp_copy_src w s x t ho e i z ht hi hz hsize hby hzs hs y l hx hy hbytes h

set_option maxRecDepth 100000 in
theorem RSet_no (B : Nat) (most last : Int) (a : Option Addr) (c : Nat) (l : List It) (i v : Int) (w : World) (h : RRow B w a c l) (hi : i < 0 ∨ (l.length : Int) ≤ i) : Calls Try.prog 27 #[rbv most last a l.length c, .int .i64 i, .int .i64 v] w fun e w' =>
    ∃ b, e = .returned b ∧ RB B w most last l b w' := by
  have HS := Lib.hid (rs_start w most last a l.length c)
  have HR := Lib.hid ((h.alloc (.cells #[.int .i64 most, .int .i64 last, .slice a l.length c] 27)).alloc (.cells #[.int .i64 0, .int .i64 0, .slice none 0 0] 27))
  have HI := Lib.hid hi
  clear hi h
  go_enter Try.func27, Try.ntmps27
  go_wp2_with fail
  refine (RHas_no most last _ l.length c i _ HI.out).mono ?_
  rintro e w2 ⟨rfl, hk2⟩
  have hs2 := HS.out.no hk2
  have HEND := Lib.hid (rb_ret (last := last) (most := most) hs2.out (HR.out.no hk2) hs2.kept (by omega))
  obtain ⟨q0, q1, q2⟩ := hs2.cells
  obtain ⟨v0, v1, v2⟩ := hs2.ins
  have s0 := (hs2.frz 0).2
  have s1 := (hs2.frz 1).2
  have s2 := (hs2.frz 2).2
  clear hs2 hk2
  go_wp2
  obtain ⟨h1, p0, p1, p2⟩ := HEND.out
  refine bodyPost_ret (v := rbv most last a l.length c) ?_ rfl ⟨_, rfl, h1⟩
  simp [results, Try.results27, go_sem, p0, p1, p2]
set_option maxRecDepth 100000 in
theorem RSet_yes (B : Nat) (most last : Int) (a : Option Addr) (c : Nat) (l : List It) (i : Nat) (v : Int) (w : World) (h : RRow B w a c l) (hi : i < l.length) (hl : l.length ≤ 100000) (hB : B ≤ w.heap.size) : Calls Try.prog 27 #[rbv most last a l.length c, .int .i64 i, .int .i64 v] w fun e w' =>
    ∃ b, e = .returned b ∧ RB B w most last (sett l i v) b w' := by
  obtain ⟨i0, hi0, hz0, hz1, hz2⟩ := info_parts Try.info56
  have HS := Lib.hid (rs_start w most last a l.length c)
  have HR := Lib.hid ((h.alloc (.cells #[.int .i64 most, .int .i64 last, .slice a l.length c] 27)).alloc (.cells #[.int .i64 0, .int .i64 0, .slice none 0 0] 27))
  clear h
  go_enter Try.func27, Try.ntmps27
  go_wp2_with fail
  refine (RHas_yes most last _ l.length c i _ hi).mono ?_
  rintro e w2 ⟨rfl, hk2⟩
  have hs2 := HS.out.no hk2
  have HSRC := Lib.hid ((HR.out.no hk2).src)
  have HS2 := Lib.hid hs2
  obtain ⟨q0, q1, q2⟩ := hs2.cells
  clear hs2 hk2
  have hi1 : (i : Int) < (l.length : Int) := by omega
  go_wp2_with (at_builtin; refine wpList_copy_src _ rfl (.const (.slice none 0 0)) (.tmp 14) _ rfl 56 i0 _ Try.underlying25 hi0 hz0 hz1 hz2 rfl rfl (.slice a l.length c) l rfl HSRC.out (by omega) ?_; intro a3 c3 w3 hown3 hk3; obtain ⟨r3, cap3, hv3, hB3, hlt3⟩ := World.ownsRow.form hown3 (by omega); obtain ⟨rfl, rfl⟩ : a3 = some ⟨r3, 0, none⟩ ∧ c3 = cap3 := (by simpa using hv3); have hr4 := RRow.sett hown3 i v hi (Nat.le_refl _); have hs4 := HS2.out.no (hk3.setCell (p := ⟨r3, i * 2 + 1, none⟩) (.inr hB3) (.int .i64 v)); have hs5 := hs4.set2 (some ⟨r3, 0, none⟩) l.length c3; have hr5 := hs4.row hr4 2 (.slice (some ⟨r3, 0, none⟩) l.length c3); have hs3 := HS2.out.no hk3; obtain ⟨q0', q1', q2'⟩ := hs3.cells; obtain ⟨v0, v1, v2⟩ := hs3.ins; have s0 := (hs3.frz 0).2; have s1 := (hs3.frz 1).2; have s2 := (hs3.frz 2).2; have y2 := (hs3.frz 2).1; have hx := heap_lt HS2.out.out; have n1 : ¬ r3 = w.heap.size := (by omega); have n2 : ¬ w.heap.size = r3 := (by omega); have n3 : ¬ r3 = w.heap.size + 1 := (by omega); have n4 : ¬ w.heap.size + 1 = r3 := (by omega); have e3 : w3.cell? ⟨r3, i * 2 + 1, none⟩ = some (.int .i64 (nth l i).2) := (World.ownsRow.cellAt hown3 (i * 2 + 1) (by omega)).trans (cel_at l i hi).2; have z3 : w3.frozen? ⟨r3, i * 2 + 1, none⟩ = false := hown3.frozenAt _; have HS5 := Lib.hid hs5; have HR5 := Lib.hid hr5; have HSZ := Lib.hid HS2.out.kept.size; clear hown3 hk3 hs4 hr4 hs5 hr5 hs3)
  obtain ⟨h1, p0, p1, p2⟩ := rb_ret (B := B) (last := last) (most := most) HS5.out.out (row_mono HR5.out (Nat.le_trans hB HSZ.out)) HS5.out.kept (by omega)
  rw [sett_len] at h1 p0 p1 p2
  refine bodyPost_ret (v := rbv most last (some ⟨r3, 0, none⟩) l.length c3) ?_ rfl ⟨_, rfl, h1⟩
  simp [results, Try.results27, go_sem, p0, p1, p2]
end Go.Proofs.Yteinjmhogkneoaa
