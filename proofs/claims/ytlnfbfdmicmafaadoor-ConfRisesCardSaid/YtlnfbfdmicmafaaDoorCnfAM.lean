/-
  The walk of ConfIs.
-/
import Derived.Test.YtlnfbfdmicmafaaDoorCnfAJ
import Derived.Test.YtlnfbfdmicmafaaDoorCnfAK
import Derived.Test.YtlnfbfdmicmafaaDoorCnfAL
import Derived.Test.YtlnfbfdmicmafaaDoorCnfT
import Derived.Test.YtlnfbfdmicmafaaDoorCnfQ
import Derived.Test.YtlnfbfdmicmafaaDoorCnfN
import Derived.Test.YtlnfbfdmicmafaaDoorCnfR
import Derived.Test.YtlnfbfdmicmafaaDoorCnfP
namespace Go.Proofs.YtlnfbfdmicmafaaDoor
open Go.RowKit Go.Sort Go.Lib
set_option linter.unusedVariables false
set_option linter.unusedSimpArgs false

abbrev AnyB : Nat → Prop := fun _ => True
theorem cfs_one {w : World} {b : Nat} {t : TypeId} {u : Value} {c : Cf} (hb : w.heap[b]? = some (.cells #[.int .i64 c.ch, .int .u64 c.ep, u, .bool c.fr, .int .i64 c.jn] t (0, 0))) (hu : NSl w AnyB u c.ns) (h0 : 0 ≤ c.ep) (h1 : c.ep ≤ topE) : CfsR w AnyB (.slice (some ⟨b, 0, none⟩) 1 1) [c] := by
  refine ⟨some ⟨b, 0, none⟩, 1, rfl, Nat.le_refl _, by decide, (fun h => by cases h), fun _ => ⟨b, 0, rfl, trivial, heap_lt hb, fun j hj => ?_⟩⟩
  obtain rfl : j = 0 := by simpa using hj
  exact ⟨u, cell_of_row _ _ 0 _ _ _ hb, cell_of_row _ _ 1 _ _ _ hb, cell_of_row _ _ 2 _ _ _ hb, cell_of_row _ _ 3 _ _ _ hb, cell_of_row _ _ 4 _ _ _ hb, hu, h0, h1⟩
theorem CfsR.kept {S F : Nat → Prop} {w w' : World} {v : Value} {l : List Cf} (h : CfsR w F v l) (hk : Kept S w w') (hs : ∀ k, k < w.heap.size → F k → ¬ S k) : CfsR w' F v l := by
  obtain ⟨a, cap, h1, h2, h3, h4, h5⟩ := h
  refine ⟨a, cap, h1, h2, h3, h4, fun hl => ?_⟩
  obtain ⟨b, o, ha, hF, hb, hc⟩ := h5 hl
  refine ⟨b, o, ha, hF, Nat.lt_of_lt_of_le hb hk.size, fun j hj => ?_⟩
  obtain ⟨u, e0, e1, e2, e3, e4, hn, q⟩ := hc j hj
  have hb' := hs b hb hF
  exact ⟨u, hk.cell hb' e0, hk.cell hb' e1, hk.cell hb' e2, hk.cell hb' e3, hk.cell hb' e4, hn.kept hk hs, q⟩
/-- Lists that are not few, or a configuration that is not: the example's answer. -/
theorem ConfIs_many (v u : Value) (l : List Cf) (c : Cf) (n : Int) (w : World) (hl : CfsR w AnyB v l) (hc : CfR w AnyB u c) (ht : Tab9 w) (hf : ¬ Few l) : Calls Tryd.prog 3 #[v, u, .int .i64 n] w (BoolE true w) := by
  obtain ⟨us, rfl, hu, h0, h1⟩ := hc
  obtain ⟨ua, uc, rfl, _⟩ := id hu
  obtain ⟨a, cap, rfl, _⟩ := id hl
  have HK := Lib.hid ((Kept.refl NoB w).alloc (.cells #[.int .i64 c.ch, .int .u64 c.ep, .slice ua c.ns.length uc, .bool c.fr, .int .i64 c.jn] 26))
  have HF := Lib.hid (few_any _ l AnyB _ (hl.kept HK.out (fun _ _ _ h => h)))
  have HA := Lib.hid (fun w' (hk : Kept NoB w w') => awake9 w' (ht.kept hk))
  rw [decide_eq_false hf] at HF
  clear hl hu ht hf
  go_enter Tryd.func3, Tryd.ntmps3
  go_wp2_with fail
  refine HF.out.mono ?_
  rintro e w1 ⟨rfl, rfl⟩
  go_wp2_with fail
  refine (HA.out _ HK.out).mono ?_
  rintro e w1 ⟨rfl, hk⟩
  have HK1 := Lib.hid (HK.out.trans hk (fun _ _ h => h))
  clear hk
  go_wp2
  go_ret
  exact ⟨rfl, HK1.out⟩
set_option maxRecDepth 100000 in
set_option maxHeartbeats 1000000 in
theorem ConfIs_large (v u : Value) (l : List Cf) (c : Cf) (n : Int) (w : World) (hl : CfsR w AnyB v l) (hc : CfR w AnyB u c) (ht : Tab9 w) (hf : Few l) (hg : ¬ Few [c]) : Calls Tryd.prog 3 #[v, u, .int .i64 n] w (BoolE true w) := by
  obtain ⟨us, rfl, hu, h0, h1⟩ := hc
  obtain ⟨ua, uc, rfl, _⟩ := id hu
  obtain ⟨a, cap, rfl, _⟩ := id hl
  have HA := Lib.hid (fun w' (hk : Kept NoB w w') => awake9 w' (ht.kept hk))
  have HF := Lib.hid (fun w' (hk : Kept NoB w w') => few_any _ l AnyB w' (hl.kept hk (fun _ _ _ h => h)))
  have HO := Lib.hid (fun w' (hk : Kept NoB w w') b t hb => few_any _ [c] AnyB w' (cfs_one (t := t) (b := b) hb (hu.kept hk (fun _ _ _ h => h)) h0 h1))
  rw [decide_eq_true hf] at HF
  rw [decide_eq_false hg] at HO
  clear hl hu ht hf hg h0 h1
  obtain ⟨L, hL⟩ : ∃ L, L = l.length := ⟨_, rfl⟩
  rw [← hL] at HF ⊢
  clear hL
  obtain ⟨ch, hch⟩ : ∃ x, x = c.ch := ⟨_, rfl⟩
  obtain ⟨ep, hep⟩ : ∃ x, x = c.ep := ⟨_, rfl⟩
  obtain ⟨fr, hfr⟩ : ∃ x, x = c.fr := ⟨_, rfl⟩
  obtain ⟨jn, hjn⟩ : ∃ x, x = c.jn := ⟨_, rfl⟩
  obtain ⟨m, hm⟩ : ∃ x, x = c.ns.length := ⟨_, rfl⟩
  rw [← hch, ← hep, ← hfr, ← hjn, ← hm] at HO ⊢
  clear hch hep hfr hjn hm
  go_enter Tryd.func3, Tryd.ntmps3
  go_wp2_with fail
  obtain ⟨W, hW⟩ : ∃ W, W = w.alloc (.cells #[.int .i64 ch, .int .u64 ep, .slice ua m uc, .bool fr, .int .i64 jn] 26) := ⟨_, rfl⟩
  have hb : W.heap[w.heap.size]? = some (.cells #[.int .i64 ch, .int .u64 ep, .slice ua m uc, .bool fr, .int .i64 jn] 26 (0, 0)) := by rw [hW]; exact heap_alloc_new w _
  have HK : Hid (Kept NoB w W) := Lib.hid (by rw [hW]; exact (Kept.refl _ _).alloc _)
  rw [← hW]
  clear hW
  refine (HF.out _ HK.out).mono ?_
  rintro e w1 ⟨rfl, rfl⟩
  obtain ⟨c0, c1, c2, c3, c4⟩ := cells5 hb
  clear hb
  go_wp2_with fail
  refine (HO.out _ (HK.out.alloc _) _ _ (heap_alloc_new _ _)).mono ?_
  rintro e w1 ⟨rfl, rfl⟩
  go_wp2_with fail
  refine (HA.out _ (HK.out.alloc _)).mono ?_
  rintro e w1 ⟨rfl, hk⟩
  have HK1 := Lib.hid ((HK.out.alloc _).trans hk (fun _ _ h => h))
  clear hk
  go_wp2
  go_ret
  exact ⟨rfl, HK1.out⟩
end Go.Proofs.YtlnfbfdmicmafaaDoor
