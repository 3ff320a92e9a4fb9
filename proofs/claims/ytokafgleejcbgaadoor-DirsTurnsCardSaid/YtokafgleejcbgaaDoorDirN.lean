/-
  Layer 29: the chapter's Bytes of entries.
-/
import Derived.Test.YtokafgleejcbgaaDoorDirM
import Derived.Lib.AppendStr
namespace Go.Proofs.YtokafgleejcbgaaDoor
open Go.RowKit
set_option linter.unusedVariables false
set_option linter.unusedSimpArgs false

/-- A row of bytes of the call's own. -/
def BO (B : Nat) (w : World) (v : Value) (l : List Int) : Prop := IsB l ∧ w.ownsRow B 5 1 v l.length (l.map (Value.int .u8))
theorem BO.nil (B : Nat) (w : World) : BO B w (.slice none 0 0) [] := ⟨IsB.nil, World.ownsRow_nil _ _ _ _⟩
theorem BO.no {B : Nat} {w w' : World} {v : Value} {l : List Int} (h : BO B w v l) (hk : Kept NoB w w') : BO B w' v l := by
  refine ⟨h.1, h.2.1, ?_⟩
  rcases h.2.2 with hn | ⟨r, cap, cur, rfl, hb, hr, rest⟩
  · exact .inl hn
  · exact .inr ⟨r, cap, cur, rfl, hb, hk.heap (fun h => h) hr, rest⟩
theorem BO.row {B : Nat} {w : World} {v : Value} {l : List Int} (h : BO B w v l) : ∀ k, v.ownBlock = some k → B ≤ k := by
  intro k hk
  rcases h.2.2 with ⟨rfl, _⟩ | ⟨r, cap, cur, rfl, hb, _⟩
  · cases hk
  · injection hk with hk
    replace hk : r = k := hk
    omega
theorem BO.bsl {B : Nat} {w : World} {v : Value} {l : List Int} (h : BO B w v l) : BSl w (fun k => B ≤ k) v l := BSl.ofOwn h.2 h.1 h.row
theorem bsl_one29 (w : World) (x : Int) (h0 : 0 ≤ x) (h1 : x < 256) : BSl (w.alloc (.cells #[.int .u8 x] 5)) (fun _ => True) (.slice (some ⟨w.heap.size, 0, none⟩) 1 1) [x] :=
  BSl.ofOwn (base := 0) (e := 5) (n := 1) ⟨rfl, .inr ⟨w.heap.size, 1, _, rfl, Nat.zero_le _, heap_alloc_new w _, Nat.le_refl _, by decide, rfl, rfl⟩⟩ (fun z hz => by rw [List.mem_singleton] at hz; rw [hz]; exact ⟨h0, h1⟩) (fun _ _ => trivial)
theorem one29 (n : Nat) (h : n < 256) : be n 1 = [(n : Int)] := by simp [be, Nat.mod_eq_of_lt h]
def ints29 (x : List UInt8) : List Int := x.map fun b => (b.toNat : Int)
theorem ints29_len (x : List UInt8) : (ints29 x).length = x.length := by simp [ints29]
theorem ints29_isB (x : List UInt8) : IsB (ints29 x) := by
  intro y hy
  unfold ints29 at hy
  rw [List.mem_map] at hy
  obtain ⟨b, _, rfl⟩ := hy
  have := b.toNat_lt
  omega
theorem str29 (x : List UInt8) : Lib.strCells ⟨x.toArray⟩ = (ints29 x).map (Value.int .u8) := by
  unfold Lib.strCells ints29
  rw [List.map_map]
  rfl
section
variable {P : Program} (t e : TypeId) (i0 : TypeInfo) (ht : P.underlying t = some (.slice e)) (hi : P.info? e = some i0) (hz0 : i0.zero = some (.int .u8 0)) (hz1 : i0.size = 1) (hz2 : i0.bytes = 1) (he : e = 5)
include ht hi hz0 hz1 hz2 he
theorem wpList_append_bo (w : World) {ops : Array Oper} {rest : List Oper} {o : Oper} {a : Act} {Q : Exit → Act → World → Prop} (hgd : o.guard = none) (s x : Operand)
    (ho : o.op = .call { callee := .builtin .append, args := #[s, x], argTypes := #[t, t] })
    (B : Nat) (v : Value) (l : List Int) (hs : a.eval s = v) (hown : BO B w v l) (G : Nat → Prop) (y : Value) (m : List Int) (hx : a.eval x = y) (hy : BSl w G y m) (hl : l.length + m.length ≤ 100000) (hB : B ≤ w.heap.size) (N : Nat) (hN : l.length + m.length = N)
    (h : ∀ a' c' w', Hid (BO B w' (.slice a' N c') (l ++ m)) → Hid (Kept (fun k => B ≤ k) w w') → wpList P ops Q rest (a.put o.dst (.slice a' N c')) w') : wpList P ops Q (o :: rest) a w := by
  subst hN he
  refine wpList_plain hgd fun K hK => ?_
  obtain ⟨v', w', hrun, h2, h3, h4⟩ := run_append_bsl (P := P) w B t o.type 5 i0 _ ht hi hz0 hz1 hz2 rfl v l.length l hown.2 G y m hy (by omega) hB
  obtain ⟨a', c', rfl⟩ := own_form h2
  unfold Oper.wp execOp
  simp only [ho, resolve, invoke, builtin, Sem.run_bind, Sem.run_pure, Result.andThen_ok, List.map_toArray, List.map_cons, List.map_nil, hs, hx, hrun]
  refine hK _ _ (h a' c' w' (show BO _ _ _ _ from ⟨fun z hz => ?_, by rw [List.length_append]; exact h2⟩) (show Kept _ _ _ from (Kept.refl _ w).grown h3 (fun k hk => .inl (hown.row k hk))))
  rcases List.mem_append.1 hz with hz | hz
  · exact hown.1 z hz
  · exact hy.isB z hz
theorem wpList_append_bos (u : TypeId) (hu : P.underlying u = some .string) (w : World) {ops : Array Oper} {rest : List Oper} {o : Oper} {a : Act} {Q : Exit → Act → World → Prop} (hgd : o.guard = none) (s x : Operand)
    (ho : o.op = .call { callee := .builtin .append, args := #[s, x], argTypes := #[t, u] })
    (B : Nat) (v : Value) (l : List Int) (hs : a.eval s = v) (hown : BO B w v l) (sx : ByteArray) (m : List UInt8) (hsx : sx = ⟨m.toArray⟩) (hx : a.eval x = .string sx) (hl : l.length + m.length ≤ 100000) (hB : B ≤ w.heap.size) (N : Nat) (hN : l.length + m.length = N)
    (h : ∀ a' c' w', Hid (BO B w' (.slice a' N c') (l ++ ints29 m)) → Hid (Kept (fun k => B ≤ k) w w') → wpList P ops Q rest (a.put o.dst (.slice a' N c')) w') : wpList P ops Q (o :: rest) a w := by
  subst hN he hsx
  have hz : (⟨m.toArray⟩ : ByteArray).size = m.length := by show m.toArray.size = _; simp
  refine Lib.wpList_append_own_string w hgd s x t u ho B 5 i0 ht hu hi hz0 hz1 hz2 v l.length _ hs hown.2 _ hx (by rw [hz]; unfold maxLen; omega) (by rw [hz]; omega) hB ?_
  intro v' w' h2 h3 _
  rw [hz, str29, ← List.map_append] at h2
  obtain ⟨a', c', rfl⟩ := own_form h2
  refine h a' c' w' (show BO _ _ _ _ from ⟨fun z hz => ?_, by rw [List.length_append, ints29_len]; exact h2⟩) (show Kept _ _ _ from (Kept.refl _ w).grown h3 (fun k hk => .inl (hown.row k hk)))
  rcases List.mem_append.1 hz with hz | hz
  · exact hown.1 z hz
  · exact ints29_isB m z hz
end
theorem kept_new29 {w w' : World} (h : Kept (fun k => w.heap.size ≤ k) w w') : Kept NoB w w' := ⟨h.os, h.tape, h.output, h.size, fun i hi _ => h.block i hi (fun e => by have e : w.heap.size ≤ i := e; omega)⟩
def RbE (W : World) (l : List En) (n : Nat) (ov iv : Value) (wr : World) : Prop :=
  ∃ (k : Nat) (a : Option Addr) (c : Nat), k ≤ n ∧ iv = .int .i64 k ∧ ov = .slice a (16 * k) c ∧ BO W.heap.size wr ov (bytEs (l.take k)) ∧ Kept (fun i => W.heap.size ≤ i) W wr
def RbZ (W : World) (M : List Int) (L N : Nat) (ov iv : Value) (wr : World) : Prop :=
  ∃ (j : Nat) (a : Option Addr) (c : Nat), L ≤ j ∧ j ≤ 11 ∧ iv = .int .i64 j ∧ ov = .slice a (N + j) c ∧ BO W.heap.size wr ov (M ++ List.replicate (j - L) 0) ∧ Kept (fun i => W.heap.size ≤ i) W wr
end Go.Proofs.YtokafgleejcbgaaDoor
