/-
  Layer 29: slices.Grow of nothing; slices.Concat of entries.
-/
import Derived.Test.YtokafgleejcbgaaDoorDirY
import Derived.Lib.AppendZeros
namespace Go.Proofs.YtokafgleejcbgaaDoor
open Go.RowKit
set_option linter.unusedVariables false

theorem wpList_append_zeros29 {P : Program} (w : World) {ops : Array Oper} {rest : List Oper} {o : Oper} {a : Act} {Q : Exit → Act → World → Prop} (hgd : o.guard = none) (s x : Operand) (t tn : TypeId)
    (ho : o.op = .call { callee := .builtin .append, args := #[s, x], argTypes := #[t, tn] })
    (e : TypeId) (i : TypeInfo) (z : Value) (k kn : IntKind) (ht : P.underlying t = some (.slice e)) (htn : P.underlying tn = some (.int kn)) (hi : P.info? e = some i) (hz : i.zero = some z)
    (n : Nat) (h0 : 0 < n) (hs2 : i.size = 2) (hzs : z.cells.size = 2) (h63 : (n : Int) ≤ 9223372036854775807) (h48 : n * i.bytes ≤ 281474976710656) (h24 : n ≤ maxLen)
    (hs : a.eval s = .slice none 0 0) (hx : a.eval x = .int k n)
    (h : ∀ cap w', Hid (n ≤ cap) → Hid (cap ≤ maxLen) → Hid (w'.ownsRow w.heap.size e 2 (.slice (some ⟨w.heap.size, 0, none⟩) 0 cap) 0 []) → Hid (Kept NoB w w') → wpList P ops Q rest (a.put o.dst (.slice (some ⟨w.heap.size, 0, none⟩) n cap)) w') : wpList P ops Q (o :: rest) a w := by
  refine wpList_plain hgd fun K hK => ?_
  have hr := Lib.run_append_nil_zeros (P := P) w t tn o.type e i z k kn ht htn hi hz n h0 (by omega) h63 h48
  unfold Oper.wp execOp
  simp only [ho, resolve, invoke, builtin, Sem.run_bind, Sem.run_pure, Result.andThen_ok, List.map_toArray, List.map_cons, List.map_nil, hs, hx, hr]
  have hge := grownCap_ge w n 0 e
  have hcm : grownCap w n 0 e ≤ maxLen := grownCap_le_maxLen w n 0 e h24
  refine hK _ _ (h _ _ (show n ≤ grownCap w n 0 e from hge) (show grownCap w n 0 e ≤ maxLen from hcm) (show World.ownsRow _ _ _ _ _ _ _ from ⟨rfl, .inr ⟨w.heap.size, _, _, rfl, Nat.le_refl _, heap_alloc_new w.drew _, Nat.zero_le _, hcm, ?_, by simp⟩⟩) (show Kept _ _ _ from (Kept.refl NoB w).drew.alloc _))
  rw [Array.size_append, size_zeroCells, size_zeroCells, hzs]
  omega
set_option maxRecDepth 100000 in
theorem Grow29_any (n : Nat) (w : World) (hn : n ≤ 1000) :
    Calls Tryd.prog 31 #[.slice none 0 0, .int .i64 n] w fun e w' => ∃ v, e = .returned v ∧ EOwn 32 w.heap.size w' v [] ∧ Kept NoB w w' := by
  obtain ⟨i0, hi0, hz0, hz1, hz2⟩ := info_parts info_en
  by_cases h0 : n = 0
  · subst h0
    go_enter Tryd.func31, Tryd.ntmps31
    go_wp2
    go_ret
    exact ⟨_, rfl, EOwn.nil _ _ _, Kept.refl _ _⟩
  · have hp : 0 < n := by omega
    have g1 : (0 : Int) < (n : Int) := by omega
    have g2 : (0 : Int) ≤ (n : Int) := by omega
    have w0 : IntKind.i64.wrap (n : Int) = (n : Int) := IntWalk.i64_in _ (by omega)
    have w1 : IntKind.i64.wrap ((n : Int) - 0) = (n : Int) := by rw [IntWalk.i64_in _ (by omega)]; omega
    clear h0
    go_enter Tryd.func31, Tryd.ntmps31
    go_wp2_with (at_builtin; refine wpList_append_zeros29 w rfl (.tmp 20) (.tmp 21) 27 3 rfl 32 i0 _ .i64 .i64 Tryd.underlying27 Tryd.underlying3 hi0 hz0 n hp hz1 rfl (by omega) (by rw [hz2]; omega) (by unfold maxLen; omega) rfl rfl ?_; intro cap w4 hc1 hc2 ho hk)
    go_ret
    exact ⟨_, rfl, ho.out, hk.out⟩
end Go.Proofs.YtokafgleejcbgaaDoor
