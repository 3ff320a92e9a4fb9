/-
  Package vers: Len, Last, Dirty, upto, Clean.
-/
import Derived.Test.YtnmclhgljpcjcaaVerC
import Derived.Laws.EntriesVeiled
namespace Go.Proofs.Ytnmclhgljpcjcaa
open Go.RowKit
set_option linter.unusedVariables false

/-- What all tells of a block, or of none. -/
def TellsV (w : World) (x v : Value) : Prop := ∀ w', Kept NoB w w' → Calls Try.prog 77 #[x] w' fun e w'' => e = .returned v ∧ w' = w''
theorem TellsV.no {w w' : World} {x v : Value} (h : TellsV w x v) (hk : Kept NoB w w') : TellsV w' x v := fun w2 hk2 => h w2 (hk.trans hk2 (fun _ _ h => h))
theorem TellsV.nil (w : World) : TellsV w (.pointer none) (.slice none 0 0) := fun w' _ => VAll_nil w'
theorem TellsV.of {w : World} {g : Nat} {v : Value} (h : w.cell? ⟨g, 0, none⟩ = some v) : TellsV w (.pointer (some ⟨g, 0, none⟩)) v := fun w' hk => VAll_any w' g v (hk.cell (p := ⟨g, 0, none⟩) (fun h => h) h)
/-- What a store of a version into a result's block leaves. -/
theorem fin15 {w W : World} {b : Nat} {x0 x1 x2 : Value} {t : TypeId} (H : W.heap[b]? = some (.cells #[x0, x1, x2] t (0, 0))) (hb : w.heap.size ≤ b) (hK : Kept NoB w W) {F : Nat → Prop} (hF : ∀ k, F k → k ≠ b) (x : Vn) {v : Value} (u : Value) (hv : v = .agg #[.int .u64 x.r, .int .u64 x.q, u]) (hO : Own W F u x.d) :
    (three15 W b 0 (.int .u64 x.r) (.int .u64 x.q) u).cell? ⟨b, 0, none⟩ = some (.int .u64 x.r) ∧ (three15 W b 0 (.int .u64 x.r) (.int .u64 x.q) u).cell? ⟨b, 1, none⟩ = some (.int .u64 x.q) ∧ (three15 W b 0 (.int .u64 x.r) (.int .u64 x.q) u).cell? ⟨b, 2, none⟩ = some u ∧
      VnO (three15 W b 0 (.int .u64 x.r) (.int .u64 x.q) u) F v x ∧ Kept NoB w (three15 W b 0 (.int .u64 x.r) (.int .u64 x.q) u) := by
  obtain ⟨r0, r1, r2⟩ := cells3v (three15_at H (.int .u64 x.r) (.int .u64 x.q) u)
  exact ⟨r0, r1, r2, ⟨u, hv, hO.kept ((Kept.refl (fun k => k = b) W).three15 (.inl rfl) 0 _ _ _) (fun k h e => hF k h e)⟩, hK.three15 (.inr hb) 0 _ _ _⟩
theorem fin15v {w W : World} {b : Nat} {x0 x1 x2 : Value} {t : TypeId} (H : W.heap[b]? = some (.cells #[x0, x1, x2] t (0, 0))) (hb : w.heap.size ≤ b) (hK : Kept NoB w W) {F : Nat → Prop} (hF : ∀ k, F k → k ≠ b) (x : Vn) {v : Value} (u : Value) (hv : v = .agg #[.int .u64 x.r, .int .u64 x.q, u]) (hO : BSl W F u x.d) :
    (three15 W b 0 (.int .u64 x.r) (.int .u64 x.q) u).cell? ⟨b, 0, none⟩ = some (.int .u64 x.r) ∧ (three15 W b 0 (.int .u64 x.r) (.int .u64 x.q) u).cell? ⟨b, 1, none⟩ = some (.int .u64 x.q) ∧ (three15 W b 0 (.int .u64 x.r) (.int .u64 x.q) u).cell? ⟨b, 2, none⟩ = some u ∧
      VnV (three15 W b 0 (.int .u64 x.r) (.int .u64 x.q) u) F v x ∧ Kept NoB w (three15 W b 0 (.int .u64 x.r) (.int .u64 x.q) u) := by
  obtain ⟨r0, r1, r2⟩ := cells3v (three15_at H (.int .u64 x.r) (.int .u64 x.q) u)
  exact ⟨r0, r1, r2, ⟨u, hv, hO.kept ((Kept.refl (fun k => k = b) W).three15 (.inl rfl) 0 _ _ _) (fun k h e => hF k h e)⟩, hK.three15 (.inr hb) 0 _ _ _⟩
theorem VLen_any (w : World) (x v : Value) (l : List Vn) (F : Nat → Prop) (ht : TellsV w x v) (h : VsAt w F v l) : Calls Try.prog 23 #[x] w fun e w' => e = .returned (.int .i64 l.length) ∧ w = w' := by
  obtain ⟨a, c, rfl⟩ := h.form
  have HT := Lib.hid (ht w (Kept.refl _ _))
  clear h ht
  go_enter Try.func23, Try.ntmps23
  go_wp2_with fail
  refine HT.out.mono ?_
  rintro e w1 ⟨rfl, rfl⟩
  go_wp2
  go_ret
  exact ⟨rfl, rfl⟩
set_option maxRecDepth 100000 in
theorem VLast_any (w : World) (x v : Value) (l : List Vn) (F : Nat → Prop) (ht : TellsV w x v) (h : VsAt w F v l) (hl : (lastV l).d.length ≤ 1000000) : Calls Try.prog 27 #[x] w fun e w' => ∃ v', e = .returned v' ∧ VnO w' (fun k => w.heap.size < k) v' (lastV l) ∧ Kept NoB w w' := by
  obtain ⟨a, c, rfl⟩ := h.form
  have hk0 := (Kept.refl NoB w).alloc (.cells #[.int .u64 0, .int .u64 0, .slice none 0 0] 43)
  have HT := Lib.hid (ht _ hk0)
  have HL := Lib.hid (VLastOf_any _ _ l F (h.no hk0))
  have HK := Lib.hid hk0
  have HB := Lib.hid (heap_alloc_new w (.cells #[.int .u64 0, .int .u64 0, .slice none 0 0] 43))
  have HZ : Hid ((w.alloc (.cells #[.int .u64 0, .int .u64 0, .slice none 0 0] 43)).heap.size = w.heap.size + 1) := Lib.hid (by simp)
  have HLL := Lib.hid hl
  clear h ht hk0 hl
  go_enter Try.func27, Try.ntmps27
  go_wp2_with fail
  refine HT.out.mono ?_
  rintro e w1 ⟨rfl, rfl⟩
  go_wp2_with fail
  refine HL.out.mono ?_
  rintro e w2 ⟨v2, rfl, hv2, hk2⟩
  have HK2 := Lib.hid (HK.out.trans hk2 (fun _ _ h => h))
  have HB2 := Lib.hid (hk2.heap (fun h => h) HB.out)
  have HZ2 : Hid (w.heap.size + 1 ≤ w2.heap.size) := Lib.hid (by have := hk2.size; have := HZ.out; omega)
  have HC := Lib.hid (VCopyOf_any w2 v2 (lastV l) F hv2 HLL.out)
  obtain ⟨u2, rfl, hu2⟩ := hv2
  obtain ⟨ua, uc, rfl, _⟩ := hu2
  clear hk2
  go_wp2_with fail
  refine HC.out.mono ?_
  rintro e w3 ⟨v3, rfl, hv3, hk3⟩
  have HK3 := Lib.hid (HK2.out.trans hk3 (fun _ _ h => h))
  have HB3 := Lib.hid (hk3.heap (fun h => h) HB2.out)
  have hv3 := hv3.mono (G := fun k => w.heap.size < k) (fun k _ h => by have := HZ2.out; omega)
  obtain ⟨⟨y0, y1, y2⟩, hy⟩ : ∃ y, y = lastV l := ⟨_, rfl⟩
  have HY := Lib.hid hy
  rw [← hy] at hv3
  obtain ⟨u, rfl, hu⟩ := hv3
  obtain ⟨va, vc, rfl⟩ := own_form hu.2.1
  have HU := Lib.hid hu
  obtain ⟨r0, r1, r2⟩ := cells3v HB3.out
  have z := blkV_frozen HB3.out
  clear hk3 hu hy
  go_wp2
  clear r0 r1 r2 z
  obtain ⟨r0, r1, r2, hO, hK⟩ := fin15 HB3.out (Nat.le_refl _) HK3.out (fun k h e => by omega) ⟨y0, y1, y2⟩ _ rfl HU.out
  unfold three15 at r0 r1 r2 hK hO
  simp only [Nat.zero_add] at r0 r1 r2 hK hO
  generalize hW : World.setCell _ _ _ = W3 at r0 r1 r2 hK hO ⊢
  exact bodyPost_ret (v := .agg #[.int .u64 y0, .int .u64 y1, .slice va y2.length vc]) (by simp [results, Try.results27, go_sem, r0, r1, r2]) rfl ⟨_, rfl, HY.out ▸ hO, hK⟩
theorem fld15_q (a b : Int) (u : Value) (w : World) : (Instr.field 43 (.agg #[.int .u64 a, .int .u64 b, u]) 1).run Try.prog w = .ok (.int .u64 b) w := by kernel_rfl
theorem fld15_r (a b : Int) (u : Value) (w : World) : (Instr.field 43 (.agg #[.int .u64 a, .int .u64 b, u]) 0).run Try.prog w = .ok (.int .u64 a) w := by kernel_rfl
theorem VDirty_any (w : World) (x v : Value) (l : List Vn) (done : Int) (F : Nat → Prop) (ht : TellsV w x v) (h : VsAt w F v l) : Calls Try.prog 31 #[x, .int .u64 done] w fun e w' => e = .returned (.bool (dirtyB l done)) ∧ Kept NoB w w' := by
  obtain ⟨a, c, rfl⟩ := h.form
  have HT := Lib.hid (ht _ (Kept.refl _ _))
  have HL := Lib.hid (VLastOf_any _ _ l F h)
  obtain ⟨bb, hbb⟩ : ∃ b, b = dirtyB l done := ⟨_, rfl⟩
  have HBB := Lib.hid hbb
  rw [← hbb]
  clear h ht hbb
  go_enter Try.func31, Try.ntmps31
  go_wp2_with fail
  refine HT.out.mono ?_
  rintro e w1 ⟨rfl, rfl⟩
  go_wp2_with fail
  refine HL.out.mono ?_
  rintro e w2 ⟨v2, rfl, hv2, hk2⟩
  have HK2 := Lib.hid hk2
  obtain ⟨⟨y0, y1, y2⟩, hy⟩ : ∃ y, y = lastV l := ⟨_, rfl⟩
  have HY := Lib.hid hy
  rw [← hy] at hv2
  obtain ⟨u2, rfl, hu2⟩ := hv2
  obtain ⟨ua, uc, rfl, _⟩ := hu2
  have hfl := fld15_q y0 y1 (.slice ua y2.length uc)
  clear hk2 hy
  go_wp2
  go_ret
  refine ⟨?_, HK2.out⟩
  rw [HBB.out]
  unfold dirtyB
  rw [← HY.out]
  rfl
end Go.Proofs.Ytnmclhgljpcjcaa
