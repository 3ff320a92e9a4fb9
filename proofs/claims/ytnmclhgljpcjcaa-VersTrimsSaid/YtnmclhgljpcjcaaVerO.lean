/-
  catenaryref15: Put.
-/
import Derived.Test.YtnmclhgljpcjcaaVerN
namespace Go.Proofs.Ytnmclhgljpcjcaa
open Go.RowKit
set_option linter.unusedVariables false
set_option linter.unusedSimpArgs false

/-- What Put tells. -/
def RPutEnd (w : World) (F : Nat → Prop) (l : List Vn) (x : Vn) (e : Ending) (w' : World) : Prop :=
  ∃ v', e = .returned (.tuple #[v', .int .i64 (putXV l x)]) ∧ VsAt w' (NewOr F w.heap.size) v' (putLV l x) ∧ Kept NoB w w'
theorem RPutEnd.bad {w w' : World} {F : Nat → Prop} {l : List Vn} {x : Vn} {v : Value} {n : Int} (hb : VsAt w F v l) (hk : Kept NoB w w') (hn : putXV l x = n) (h0 : n ≠ 0) : RPutEnd w F l x (.returned (.tuple #[v, .int .i64 n])) w' := by
  refine ⟨v, by rw [hn], ?_, hk⟩
  unfold putLV
  rw [hn, if_neg h0]
  exact (hb.no hk).mono (fun _ _ h => .inl h)
section
variable {P : Program} (t e : TypeId) (i0 : TypeInfo) (ht : P.underlying t = some (.slice e)) (hi : P.info? e = some i0) (hz0 : i0.zero = some (.agg #[.int .u64 0, .int .u64 0, .slice none 0 0])) (hz1 : i0.size = 3) (hz2 : i0.bytes = 40)
include ht hi hz0 hz1 hz2
theorem step_append_vs0 {w : World} {ops : Array Oper} {o : Oper} {a : Act} {K : Act → World → Prop} {Q : Exit → Act → World → Prop} {E : Prop} (hgd : o.guard = none) (s x : Operand)
    (ho : o.op = .call { callee := .builtin .append, args := #[s, x], argTypes := #[t, t] }) (hs : a.eval s = .slice none 0 0) (base : Nat) (xv : Value) (l : List Vn) (F : Nat → Prop) (hx : a.eval x = xv) (hxv : VsAt w F xv l) (hl : l.length ≤ 100000) (hbase : base ≤ w.heap.size)
    (h : ∀ ps a' c' w', ps.map Prod.fst = l → DatIn w F ps → VOw e base w' (.slice a' l.length c') ps → w.grownBy w' none → ((Value.slice a' l.length c').ownBlock = none ∨ (Value.slice a' l.length c').ownBlock = some w.heap.size) → K (a.put o.dst (.slice a' l.length c')) w') :
    if Region.wanted o (yielded ops a.tmps) = true then Oper.wp P o a w K Q else E := by
  have hw : Region.wanted o (yielded ops a.tmps) = true := by simp [Region.wanted, hgd]
  rw [if_pos hw]
  obtain ⟨ps, a', c', w', hrun, h1, h2, h3, h4, h5⟩ := run_append_vs0 t e i0 ht hi hz0 hz1 hz2 w base o.type xv l F hxv hl hbase
  unfold Oper.wp execOp
  simp only [ho, resolve, invoke, builtin, Sem.run_bind, Sem.run_pure, Result.andThen_ok, List.map_toArray, List.map_cons, List.map_nil, hs, hx, hrun]
  exact h ps a' c' w' h1 h2 h3 h4 h5
theorem step_append_v1 {w : World} {ops : Array Oper} {o : Oper} {a : Act} {K : Act → World → Prop} {Q : Exit → Act → World → Prop} {E : Prop} (hgd : o.guard = none) (s x : Operand)
    (ho : o.op = .call { callee := .builtin .append, args := #[s, x], argTypes := #[t, t] })
    (base : Nat) (v : Value) (ps : List (Vn × Value)) (hs : a.eval s = v) (hown : VOw e base w v ps) (b : Nat) (c : Vn) (u : Value) (t' : TypeId) (hx : a.eval x = .slice (some ⟨b, 0, none⟩) 1 1) (hb : w.heap[b]? = some (.cells #[.int .u64 c.r, .int .u64 c.q, u] t' (0, 0))) (hu : u.oneCell' = true) (hl : ps.length ≤ 100000) (hbase : base ≤ w.heap.size) (N : Nat) (hN : ps.length + 1 = N)
    (h : ∀ a' c' w', VOw e base w' (.slice a' N c') (ps ++ [(c, u)]) → w.grownBy w' v.ownBlock → ((Value.slice a' N c').ownBlock = v.ownBlock ∨ (Value.slice a' N c').ownBlock = some w.heap.size) → K (a.put o.dst (.slice a' N c')) w') :
    if Region.wanted o (yielded ops a.tmps) = true then Oper.wp P o a w K Q else E := by
  have hw : Region.wanted o (yielded ops a.tmps) = true := by simp [Region.wanted, hgd]
  rw [if_pos hw]
  subst hN
  obtain ⟨a', c', w', hrun, h2, h3, h4⟩ := run_append_v1 t e i0 ht hi hz0 hz1 hz2 w base o.type v ps hown b c u t' hb hu hl hbase
  unfold Oper.wp execOp
  simp only [ho, resolve, invoke, builtin, Sem.run_bind, Sem.run_pure, Result.andThen_ok, List.map_toArray, List.map_cons, List.map_nil, hs, hx, hrun]
  exact h a' c' w' h2 h3 h4
end
theorem rput_end15 {w W w6 : World} {F : Nat → Prop} {l : List Vn} {x0 x1 : Int} {x2 : List Int} {u : Value} {ps : List (Vn × Value)} {a6 : Option Addr} {n6 c6 : Nat} (hkw : Kept NoB w W) (hps : ps.map Prod.fst = l) (hd : DatIn w6 F ps) (hu : BSl W F u x2) (ho : VOw 36 W.heap.size w6 (.slice a6 n6 c6) (ps ++ [(⟨x0, x1, x2⟩, u)])) (hk6 : Kept NoB W w6) (hp : putXV l ⟨x0, x1, x2⟩ = 0) :
    RPutEnd w F l ⟨x0, x1, x2⟩ (.returned (.tuple #[.slice a6 n6 c6, .int .i64 0])) w6 := by
  refine ⟨_, by rw [hp], ?_, hkw.trans hk6 (fun _ _ h => h)⟩
  unfold putLV
  rw [hp, if_pos rfl]
  have hv := ho.vs (F := NewOr F w.heap.size) (fun k hk => .inr (by have := (ho.base k hk).1; have := hkw.size; omega)) (fun p hm => ?_)
  · rw [List.map_append, hps] at hv
    exact hv
  · rcases List.mem_append.1 hm with hm | hm
    · exact (hd p hm).mono (fun _ _ h => .inl h)
    · obtain rfl : p = (⟨x0, x1, x2⟩, u) := by simpa using hm
      exact (hu.kept hk6 (fun _ _ h => h)).mono (fun _ _ h => .inl h)
set_option maxRecDepth 100000 in
set_option maxHeartbeats 2000000 in
theorem RPut15_far (w : World) (a ua : Option Addr) (c uc : Nat) (x0 x1 y0 y1 : Int) (x2 : List Int) (l : List Vn) (F : Nat → Prop) (hv : VsAt w F (.slice a l.length c) l) (hp : putXV l ⟨x0, x1, x2⟩ = 12) (hN0 : 0 < l.length) (g1 : (x2.length : Int) ≤ 2048) (q0 : (x0 == 0) = false) (q1 : (x1 == 0) = false) (hw1 : IntKind.u64.wrap (x0 - 1) = x0 - 1)
    (hlo : ∀ w', Kept NoB w w' → Calls Try.prog 28 #[.slice a l.length c] w' fun e w'' => ∃ u' n' c', e = .returned (.agg #[.int .u64 y0, .int .u64 y1, .slice u' n' c']) ∧ Kept NoB w' w'') (hr1 : (x0 - 1 != y0) = true) :
    Calls Try.prog 18 #[.slice a l.length c, .agg #[.int .u64 x0, .int .u64 x1, .slice ua x2.length uc]] w (RPutEnd w F l ⟨x0, x1, x2⟩) := by
  have HV := Lib.hid hv
  have HP := Lib.hid hp
  have HLO := Lib.hid hlo
  have HKX := Lib.hid ((Kept.refl NoB w).alloc (.cells #[.int .u64 x0, .int .u64 x1, .slice ua x2.length uc] 36))
  have HXX := Lib.hid (heap_alloc_new w (.cells #[.int .u64 x0, .int .u64 x1, .slice ua x2.length uc] 36))
  obtain ⟨d0, d1, d2⟩ := cells3v HXX.out
  have hfd := fldR15_r y0 y1
  have hfq := fldR15_q y0 y1
  clear hv hp hlo
  go_enter Try.func18, Try.ntmps18
  go_wp2_with fail
  have HTEN : Hid (∀ w', Kept NoB (w.alloc (.cells #[.int .u64 x0, .int .u64 x1, .slice ua x2.length uc] 36)) w' → w'.cell? ⟨w.heap.size, 0, none⟩ = some (.int .u64 x0) ∧ w'.cell? ⟨w.heap.size, 1, none⟩ = some (.int .u64 x1)) := Lib.hid (fun w' hk => ⟨hk.cell (p := ⟨w.heap.size, 0, none⟩) (fun h => h) d0, hk.cell (p := ⟨w.heap.size, 1, none⟩) (fun h => h) d1⟩)
  have HKe := Lib.hid (Kept.refl NoB (w.alloc (.cells #[.int .u64 x0, .int .u64 x1, .slice ua x2.length uc] 36))).drew
  have HT := Lib.hid (HTEN.out _ HKe.out)
  refine wp_region_noPanic ?_
  refine wp_region_held_drew (S := (fun w' => w'.cell? ⟨w.heap.size, 0, none⟩ = some (.int .u64 x0) ∧ w'.cell? ⟨w.heap.size, 1, none⟩ = some (.int .u64 x1))) (by kernel_rfl) ?_ (fun hHeld => ?_)
  · (try dsimp only); with_reducible exact HT.out
  refine wpAnyH_take (i := 0) (oi := { dst := some 20, op := Op.move (Operand.tmp 0), type := 32, pos := "ref.go:48", after := #[], guard := none }) (v := ?_) rfl (by kernel_rfl) (by kernel_rfl) (by kernel_rfl) (fun _ _ _ h => h) (Or.inl ⟨by rfl, ?_⟩) (by assumption) ?_
  rotate_left
  · (intro w hSw; (try dsimp only at hSw); go_simp; try with_reducible rfl)
  try simp only [Act.put, List.setIfInBounds_toArray, List.set_cons_zero, List.set_cons_succ]
  refine wpAnyH_take (i := 1) (oi := { dst := some 21, op := Op.call { callee := Callee.builtin Builtin.len, args := #[Operand.tmp 20], argTypes := #[32] }, type := 3, pos := "ref.go:48", after := #[{ on := 0, ground := Ground.data }], guard := none }) (v := ?_) rfl (by kernel_rfl) (by kernel_rfl) (by kernel_rfl) (fun _ _ _ h => h) (Or.inl ⟨by rfl, ?_⟩) (by assumption) ?_
  rotate_left
  · (intro w hSw; (try dsimp only at hSw); go_simp; try with_reducible rfl)
  try simp only [Act.put, List.setIfInBounds_toArray, List.set_cons_zero, List.set_cons_succ]
  refine wpAnyH_take (i := 2) (oi := { dst := some 22, op := Op.binOp BinOp.gtr 3 (Operand.tmp 21) (Operand.const (Value.int IntKind.i64 0)) 3, type := 4, pos := "ref.go:48", after := #[{ on := 1, ground := Ground.data }], guard := none }) (v := ?_) rfl (by kernel_rfl) (by kernel_rfl) (by kernel_rfl) (fun _ _ _ h => h) (Or.inl ⟨by rfl, ?_⟩) (by assumption) ?_
  rotate_left
  · (intro w hSw; (try dsimp only at hSw); go_simp; try with_reducible rfl)
  try simp only [Act.put, List.setIfInBounds_toArray, List.set_cons_zero, List.set_cons_succ]
  refine wpAnyH_take (i := 3) (oi := { dst := some 23, op := Op.move (Operand.tmp 22), type := 4, pos := "ref.go:48", after := #[{ on := 2, ground := Ground.data }], guard := none }) (v := ?_) rfl (by kernel_rfl) (by kernel_rfl) (by kernel_rfl) (fun _ _ _ h => h) (Or.inl ⟨by rfl, ?_⟩) (by assumption) ?_
  rotate_left
  · (intro w hSw; (try dsimp only at hSw); go_simp; try with_reducible rfl)
  try simp only [Act.put, List.setIfInBounds_toArray, List.set_cons_zero, List.set_cons_succ]
  refine wpAnyH_take (i := 4) (oi := { dst := some 24, op := Op.fieldAddr 36 (Operand.tmp 3) 0, type := 0, pos := "ref.go:48", after := #[{ on := 3, ground := Ground.guard }], guard := some (3, true) }) (v := ?_) rfl (by kernel_rfl) (by kernel_rfl) (by kernel_rfl) (fun _ _ _ h => h) (Or.inl ⟨by rfl, ?_⟩) (by assumption) ?_
  rotate_left
  · (intro w hSw; (try dsimp only at hSw); go_simp; try with_reducible rfl)
  try simp only [Act.put, List.setIfInBounds_toArray, List.set_cons_zero, List.set_cons_succ]
  refine wpAnyH_take (i := 5) (oi := { dst := some 25, op := Op.load 33 (Operand.tmp 24), type := 33, pos := "ref.go:48", after := #[{ on := 4, ground := Ground.data }, { on := 3, ground := Ground.guard }], guard := some (3, true) }) (v := ?_) rfl (by kernel_rfl) (by kernel_rfl) (by kernel_rfl) (fun _ _ _ h => h) (Or.inl ⟨by rfl, ?_⟩) (by assumption) ?_
  rotate_left
  · (intro w hSw; (try dsimp only at hSw); go_simp; try with_reducible rfl)
  try simp only [Act.put, List.setIfInBounds_toArray, List.set_cons_zero, List.set_cons_succ]
  refine wpAnyH_take (i := 6) (oi := { dst := some 26, op := Op.binOp BinOp.sub 33 (Operand.tmp 25) (Operand.const (Value.int IntKind.u64 1)) 33, type := 33, pos := "ref.go:48", after := #[{ on := 5, ground := Ground.data }, { on := 3, ground := Ground.guard }], guard := some (3, true) }) (v := ?_) rfl (by kernel_rfl) (by kernel_rfl) (by kernel_rfl) (fun _ _ _ h => h) (Or.inl ⟨by rfl, ?_⟩) (by assumption) ?_
  rotate_left
  · (intro w hSw; (try dsimp only at hSw); go_simp; try with_reducible rfl)
  try simp only [Act.put, List.setIfInBounds_toArray, List.set_cons_zero, List.set_cons_succ]
  refine wpAnyH_take (i := 7) (oi := { dst := some 27, op := Op.move (Operand.tmp 0), type := 32, pos := "ref.go:48", after := #[{ on := 3, ground := Ground.guard }], guard := some (3, true) }) (v := ?_) rfl (by kernel_rfl) (by kernel_rfl) (by kernel_rfl) (fun _ _ _ h => h) (Or.inl ⟨by rfl, ?_⟩) (by assumption) ?_
  rotate_left
  · (intro w hSw; (try dsimp only at hSw); go_simp; try with_reducible rfl)
  try simp only [Act.put, List.setIfInBounds_toArray, List.set_cons_zero, List.set_cons_succ]
  refine wpAnyH_ready (rs := [8]) (by kernel_rfl) (by simp) ?_
  refine AllReadyH.cons (o := { dst := some 28, op := Op.call { callee := Callee.value (Operand.func 28), args := #[Operand.tmp 27], argTypes := #[32] }, type := 36, pos := "ref.go:48", after := #[{ on := 7, ground := Ground.data }, { on := 3, ground := Ground.chain }, { on := 3, ground := Ground.guard }], guard := some (3, true) }) rfl (fun K hK => ?_) AllReadyH.nil
  go_simp
  (with_reducible refine (HLO.out _ (HKX.out.trans HKe.out (fun _ _ h => h))).mono ?_)
  rintro e w3 ⟨u', n', c', rfl, hk3⟩
  replace HKe := Lib.hid (HKe.out.trans hk3 (fun _ _ h => h))
  clear hk3
  replace HT := Lib.hid (HTEN.out _ HKe.out)
  first | (with_reducible refine hK.out _ _ ?_ (fun hHeld => ?_)) | (go_wp2_with fail; with_reducible refine hK.out _ _ ?_ (fun hHeld => ?_))
  · (try dsimp only); with_reducible exact HT.out
  clear hK K
  try simp only [Act.put, List.setIfInBounds_toArray, List.set_cons_zero, List.set_cons_succ]
  refine wpAnyH_take (i := 9) (oi := { dst := some 29, op := Op.field 36 (Operand.tmp 28) 0, type := 33, pos := "ref.go:48", after := #[{ on := 8, ground := Ground.data }, { on := 3, ground := Ground.guard }], guard := some (3, true) }) (v := ?_) rfl (by kernel_rfl) (by kernel_rfl) (by kernel_rfl) (fun _ _ _ h => h) (Or.inl ⟨by rfl, ?_⟩) (by assumption) ?_
  rotate_left
  · (intro w hSw; (try dsimp only at hSw); go_simp; try with_reducible rfl)
  try simp only [Act.put, List.setIfInBounds_toArray, List.set_cons_zero, List.set_cons_succ]
  refine wpAnyH_take (i := 10) (oi := { dst := some 30, op := Op.binOp BinOp.neq 33 (Operand.tmp 26) (Operand.tmp 29) 33, type := 4, pos := "ref.go:48", after := #[{ on := 6, ground := Ground.data }, { on := 9, ground := Ground.data }, { on := 3, ground := Ground.guard }], guard := some (3, true) }) (v := ?_) rfl (by kernel_rfl) (by kernel_rfl) (by kernel_rfl) (fun _ _ _ h => h) (Or.inl ⟨by rfl, ?_⟩) (by assumption) ?_
  rotate_left
  · (intro w hSw; (try dsimp only at hSw); go_simp; try with_reducible rfl)
  try simp only [Act.put, List.setIfInBounds_toArray, List.set_cons_zero, List.set_cons_succ]
  refine wpAnyH_take (i := 11) (oi := { dst := some 31, op := Op.move (Operand.tmp 30), type := 4, pos := "ref.go:48", after := #[{ on := 10, ground := Ground.data }, { on := 8, ground := Ground.chain }, { on := 3, ground := Ground.guard }], guard := some (3, true) }) (v := ?_) rfl (by kernel_rfl) (by kernel_rfl) (by kernel_rfl) (fun _ _ _ h => h) (Or.inl ⟨by rfl, ?_⟩) (by assumption) ?_
  rotate_left
  · (intro w hSw; (try dsimp only at hSw); go_simp; try with_reducible rfl)
  try simp only [Act.put, List.setIfInBounds_toArray, List.set_cons_zero, List.set_cons_succ]
  refine wpAnyH_take (i := 12) (oi := { dst := some 32, op := Op.fieldAddr 36 (Operand.tmp 3) 1, type := 0, pos := "ref.go:48", after := #[{ on := 11, ground := Ground.guard }], guard := some (11, false) }) (v := undef) rfl (by kernel_rfl) (by kernel_rfl) (by kernel_rfl) (fun _ _ _ h => h) (Or.inr ⟨by rfl, rfl⟩) (by assumption) ?_
  try simp only [Act.put, List.setIfInBounds_toArray, List.set_cons_zero, List.set_cons_succ]
  refine wpAnyH_take (i := 13) (oi := { dst := some 33, op := Op.load 33 (Operand.tmp 32), type := 33, pos := "ref.go:48", after := #[{ on := 12, ground := Ground.data }, { on := 11, ground := Ground.guard }], guard := some (11, false) }) (v := undef) rfl (by kernel_rfl) (by kernel_rfl) (by kernel_rfl) (fun _ _ _ h => h) (Or.inr ⟨by rfl, rfl⟩) (by assumption) ?_
  try simp only [Act.put, List.setIfInBounds_toArray, List.set_cons_zero, List.set_cons_succ]
  refine wpAnyH_take (i := 14) (oi := { dst := some 34, op := Op.move (Operand.tmp 0), type := 32, pos := "ref.go:48", after := #[{ on := 11, ground := Ground.guard }], guard := some (11, false) }) (v := undef) rfl (by kernel_rfl) (by kernel_rfl) (by kernel_rfl) (fun _ _ _ h => h) (Or.inr ⟨by rfl, rfl⟩) (by assumption) ?_
  try simp only [Act.put, List.setIfInBounds_toArray, List.set_cons_zero, List.set_cons_succ]
  refine wpAnyH_take (i := 15) (oi := { dst := some 35, op := Op.call { callee := Callee.value (Operand.func 28), args := #[Operand.tmp 34], argTypes := #[32] }, type := 36, pos := "ref.go:48", after := #[{ on := 14, ground := Ground.data }, { on := 11, ground := Ground.chain }, { on := 11, ground := Ground.guard }], guard := some (11, false) }) (v := undef) rfl (by kernel_rfl) (by kernel_rfl) (by kernel_rfl) (fun _ _ _ h => h) (Or.inr ⟨by rfl, rfl⟩) (by assumption) ?_
  try simp only [Act.put, List.setIfInBounds_toArray, List.set_cons_zero, List.set_cons_succ]
  refine wpAnyH_take (i := 16) (oi := { dst := some 36, op := Op.field 36 (Operand.tmp 35) 1, type := 33, pos := "ref.go:48", after := #[{ on := 15, ground := Ground.data }, { on := 11, ground := Ground.guard }], guard := some (11, false) }) (v := undef) rfl (by kernel_rfl) (by kernel_rfl) (by kernel_rfl) (fun _ _ _ h => h) (Or.inr ⟨by rfl, rfl⟩) (by assumption) ?_
  try simp only [Act.put, List.setIfInBounds_toArray, List.set_cons_zero, List.set_cons_succ]
  refine wpAnyH_take (i := 17) (oi := { dst := some 37, op := Op.binOp BinOp.leq 33 (Operand.tmp 33) (Operand.tmp 36) 33, type := 4, pos := "ref.go:48", after := #[{ on := 13, ground := Ground.data }, { on := 16, ground := Ground.data }, { on := 11, ground := Ground.guard }], guard := some (11, false) }) (v := undef) rfl (by kernel_rfl) (by kernel_rfl) (by kernel_rfl) (fun _ _ _ h => h) (Or.inr ⟨by rfl, rfl⟩) (by assumption) ?_
  try simp only [Act.put, List.setIfInBounds_toArray, List.set_cons_zero, List.set_cons_succ]
  refine wpAnyH_take (i := 18) (oi := { dst := some 38, op := Op.pick (Operand.tmp 31) (Operand.const (Value.bool true)) (Operand.tmp 37), type := 4, pos := "ref.go:48", after := #[{ on := 11, ground := Ground.data }, { on := 17, ground := Ground.data }, { on := 3, ground := Ground.guard }], guard := some (3, true) }) (v := ?_) rfl (by kernel_rfl) (by kernel_rfl) (by kernel_rfl) (fun _ _ _ h => h) (Or.inl ⟨by rfl, ?_⟩) (by assumption) ?_
  rotate_left
  · (intro w hSw; (try dsimp only at hSw); go_simp; try with_reducible rfl)
  try simp only [Act.put, List.setIfInBounds_toArray, List.set_cons_zero, List.set_cons_succ]
  refine wpAnyH_take (i := 19) (oi := { dst := some 39, op := Op.pick (Operand.tmp 23) (Operand.tmp 38) (Operand.const (Value.bool false)), type := 4, pos := "ref.go:48", after := #[{ on := 3, ground := Ground.data }, { on := 18, ground := Ground.data }], guard := none }) (v := ?_) rfl (by kernel_rfl) (by kernel_rfl) (by kernel_rfl) (fun _ _ _ h => h) (Or.inl ⟨by rfl, ?_⟩) (by assumption) ?_
  rotate_left
  · (intro w hSw; (try dsimp only at hSw); go_simp; try with_reducible rfl)
  try simp only [Act.put, List.setIfInBounds_toArray, List.set_cons_zero, List.set_cons_succ]
  refine wpAnyH_done (by kernel_rfl) ?_ _
  refine NoPanic.normal ?_
  go_wp2_with fail
  go_ret2
  exact RPutEnd.bad HV.out (HKX.out.trans HKe.out (fun _ _ h => h)) HP.out (by decide)
end Go.Proofs.Ytnmclhgljpcjcaa
