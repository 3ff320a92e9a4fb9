/-
  Package vers: a block in memory; all, lastOf, copyOf; the chapter's Last.
-/
import Derived.Test.YtnmclhgljpcjcaaVerB
namespace Go.Proofs.Ytnmclhgljpcjcaa
open Go.RowKit
set_option linter.unusedVariables false

theorem info_vers : (Try.prog.info? 43).map (fun i => (i.zero, i.size, i.bytes)) = some (some (.agg #[.int .u64 0, .int .u64 0, .slice none 0 0]), 3, 40) := by kernel_rfl
theorem info_rvers : (Try.prog.info? 36).map (fun i => (i.zero, i.size, i.bytes)) = some (some (.agg #[.int .u64 0, .int .u64 0, .slice none 0 0]), 3, 40) := by kernel_rfl
/-- Block g is a block of these versions; its own blocks, and no others, lie in G. -/
def BkAt (w : World) (g : Nat) (G : Nat → Prop) (l : List Vn) : Prop :=
  ∃ v ps, w.heap[g]? = some (.cells #[v] 129 (0, 0)) ∧ VOw 43 0 w v ps ∧ ps.map Prod.fst = l ∧ DatIn w (fun k => G k ∧ k ≠ g ∧ some k ≠ v.ownBlock) ps ∧ G g ∧ (∀ k, v.ownBlock = some k → G k) ∧ Asc l
theorem BkAt.kept {S G : Nat → Prop} {w w' : World} {g : Nat} {l : List Vn} (h : BkAt w g G l) (hk : Kept S w w') (hs : ∀ k, G k → ¬ S k) : BkAt w' g G l := by
  obtain ⟨v, ps, h1, h2, h3, h4, h5, h6, h7⟩ := h
  exact ⟨v, ps, hk.heap (hs g h5) h1, h2.kept hk (fun k hk => hs k (h6 k hk)), h3, h4.kept hk (fun k hk => hs k hk.1), h5, h6, h7⟩
theorem BkAt.no {G : Nat → Prop} {w w' : World} {g : Nat} {l : List Vn} (h : BkAt w g G l) (hk : Kept NoB w w') : BkAt w' g G l := h.kept hk (fun _ _ h => h)
theorem BkAt.mono {F G : Nat → Prop} {w : World} {g : Nat} {l : List Vn} (h : BkAt w g F l) (hG : ∀ k, k < w.heap.size → F k → G k) : BkAt w g G l := by
  obtain ⟨v, ps, h1, h2, h3, h4, h5, h6, h7⟩ := h
  exact ⟨v, ps, h1, h2, h3, h4.mono (fun k hk h => ⟨hG k hk h.1, h.2⟩), hG g (heap_lt h1) h5, fun k hk => hG k (h2.base k hk).2 (h6 k hk), h7⟩
theorem BkAt.lt {G : Nat → Prop} {w : World} {g : Nat} {l : List Vn} (h : BkAt w g G l) : g < w.heap.size ∧ G g := by
  obtain ⟨v, ps, h1, h2, h3, h4, h5, h6, h7⟩ := h
  exact ⟨heap_lt h1, h5⟩
theorem BkAt.asc {G : Nat → Prop} {w : World} {g : Nat} {l : List Vn} (h : BkAt w g G l) : Asc l := by
  obtain ⟨v, ps, h1, h2, h3, h4, h5, h6, h7⟩ := h
  exact h7
theorem BkAt.vs {G : Nat → Prop} {w : World} {g : Nat} {l : List Vn} (h : BkAt w g G l) : ∃ a c, w.cell? ⟨g, 0, none⟩ = some (.slice a l.length c) ∧ VsAt w G (.slice a l.length c) l := by
  obtain ⟨v, ps, h1, h2, h3, h4, h5, h6, h7⟩ := h
  have hv := h2.vs h6 (h4.mono (fun k _ h => h.1))
  rw [h3] at hv
  obtain ⟨a, c, rfl⟩ := hv.form
  exact ⟨a, c, cell_of_row _ _ 0 _ _ _ h1, hv⟩
theorem VNew_any (w : World) : Calls Try.prog 16 #[] w fun e w' => e = .returned (.pointer (some ⟨w.heap.size, 0, none⟩)) ∧ BkAt w' w.heap.size (fun k => k = w.heap.size) [] ∧ Kept NoB w w' := by
  go_enter Try.func16, Try.ntmps16
  go_wp2
  go_ret
  exact ⟨rfl, ⟨_, [], heap_alloc_new w _, VOw.nil _ _ _, rfl, (fun p hp => by cases hp), rfl, (fun k hk => by cases hk), Asc.nil⟩, (Kept.refl NoB w).alloc _⟩
theorem VAll_nil (w : World) : Calls Try.prog 77 #[.pointer none] w fun e w' => e = .returned (.slice none 0 0) ∧ w = w' := by
  go_enter Try.func77, Try.ntmps77
  go_wp2
  go_ret
  exact ⟨rfl, rfl⟩
theorem VAll_any (w : World) (g : Nat) (v : Value) (hc : w.cell? ⟨g, 0, none⟩ = some v) : Calls Try.prog 77 #[.pointer (some ⟨g, 0, none⟩)] w fun e w' => e = .returned v ∧ w = w' := by
  go_enter Try.func77, Try.ntmps77
  go_wp2
  go_ret
  exact ⟨rfl, rfl⟩
-- LASTOF
set_option maxRecDepth 100000 in
theorem VLastOf_any (w : World) (v : Value) (l : List Vn) (F : Nat → Prop) (h : VsAt w F v l) : Calls Try.prog 73 #[v] w fun e w' => ∃ v', e = .returned v' ∧ VnV w' F v' (lastV l) ∧ Kept NoB w w' := by
  obtain ⟨a, c, rfl⟩ := h.form
  by_cases h0 : l = []
  · subst h0
    have h1 := heap_alloc_new w (.cells #[.int .u64 0, .int .u64 0, .slice none 0 0] 43)
    obtain ⟨r0, r1, r2⟩ := cells3v h1
    have z0 := blkV_frozen h1
    have hk2 : Kept NoB w (w.alloc (.cells #[.int .u64 0, .int .u64 0, .slice none 0 0] 43)) := (Kept.refl _ _).alloc _
    have HK := Lib.hid hk2
    rw [show ([] : List Vn).length = 0 from rfl]
    clear h h1 hk2
    go_enter Try.func73, Try.ntmps73
    go_wp2
    exact bodyPost_ret (v := .agg #[.int .u64 0, .int .u64 0, .slice none 0 0]) (by simp [results, Try.results73, go_sem, r0, r1, r2]) rfl ⟨_, rfl, VnV.zero _ _, HK.out⟩
  · obtain ⟨k, hk⟩ : ∃ k, l.length = k + 1 := ⟨l.length - 1, by have := List.length_pos_iff.2 h0; omega⟩
    obtain ⟨b, o, rfl, hF, hb, u, e0, e1, e2, hd⟩ := h.at_ (j := k) (by omega)
    have hkm : k < 9223372036854775807 := by have := h.len; unfold maxLen at this; omega
    have hl : lastV l = nthV l k := by unfold lastV; rw [hk, Nat.add_sub_cancel]
    rw [hl, hk]
    obtain ⟨⟨y0, y1, y2⟩, hy⟩ : ∃ y, y = nthV l k := ⟨_, rfl⟩
    rw [← hy] at e0 e1 hd ⊢
    simp only at e0 e1 hd
    have HD := Lib.hid hd
    obtain ⟨ua, uc, rfl, _⟩ := hd
    have k1 : (((k + 1 : Nat) : Int) == 0) = false := by rw [beq_eq_false_iff_ne]; omega
    have k2 : ((k + 1 : Nat) : Int) = (k : Int) + 1 := by omega
    clear h h0 hk hl hy
    have HK := Lib.hid ((Kept.refl NoB w).alloc (.cells #[.int .u64 y0, .int .u64 y1, .slice ua y2.length uc] 43))
    have h1 := heap_alloc_new w (.cells #[.int .u64 y0, .int .u64 y1, .slice ua y2.length uc] 43)
    obtain ⟨r0, r1, r2⟩ := cells3v h1
    clear h1
    go_enter Try.func73, Try.ntmps73
    go_wp2
    exact bodyPost_ret (v := .agg #[.int .u64 y0, .int .u64 y1, .slice ua y2.length uc]) (by simp [results, Try.results73, go_sem, r0, r1, r2]) rfl ⟨_, rfl, ⟨_, rfl, HD.out.kept HK.out (fun _ _ h => h)⟩, HK.out⟩
set_option maxRecDepth 100000 in
theorem RLast15_any (w : World) (v : Value) (l : List Vn) (F : Nat → Prop) (h : VsAt w F v l) : Calls Try.prog 28 #[v] w fun e w' => ∃ v', e = .returned v' ∧ VnV w' F v' (lastV l) ∧ Kept NoB w w' := by
  obtain ⟨a, c, rfl⟩ := h.form
  by_cases h0 : l = []
  · subst h0
    have h1 := heap_alloc_new w (.cells #[.int .u64 0, .int .u64 0, .slice none 0 0] 36)
    obtain ⟨r0, r1, r2⟩ := cells3v h1
    have z0 := blkV_frozen h1
    have hk2 : Kept NoB w (w.alloc (.cells #[.int .u64 0, .int .u64 0, .slice none 0 0] 36)) := (Kept.refl _ _).alloc _
    have HK := Lib.hid hk2
    rw [show ([] : List Vn).length = 0 from rfl]
    clear h h1 hk2
    go_enter Try.func28, Try.ntmps28
    go_wp2
    exact bodyPost_ret (v := .agg #[.int .u64 0, .int .u64 0, .slice none 0 0]) (by simp [results, Try.results28, go_sem, r0, r1, r2]) rfl ⟨_, rfl, VnV.zero _ _, HK.out⟩
  · obtain ⟨k, hk⟩ : ∃ k, l.length = k + 1 := ⟨l.length - 1, by have := List.length_pos_iff.2 h0; omega⟩
    obtain ⟨b, o, rfl, hF, hb, u, e0, e1, e2, hd⟩ := h.at_ (j := k) (by omega)
    have hkm : k < 9223372036854775807 := by have := h.len; unfold maxLen at this; omega
    have hl : lastV l = nthV l k := by unfold lastV; rw [hk, Nat.add_sub_cancel]
    rw [hl, hk]
    obtain ⟨⟨y0, y1, y2⟩, hy⟩ : ∃ y, y = nthV l k := ⟨_, rfl⟩
    rw [← hy] at e0 e1 hd ⊢
    simp only at e0 e1 hd
    have HD := Lib.hid hd
    obtain ⟨ua, uc, rfl, _⟩ := hd
    have k1 : (((k + 1 : Nat) : Int) == 0) = false := by rw [beq_eq_false_iff_ne]; omega
    have k2 : ((k + 1 : Nat) : Int) = (k : Int) + 1 := by omega
    clear h h0 hk hl hy
    have HK := Lib.hid ((Kept.refl NoB w).alloc (.cells #[.int .u64 y0, .int .u64 y1, .slice ua y2.length uc] 36))
    have h1 := heap_alloc_new w (.cells #[.int .u64 y0, .int .u64 y1, .slice ua y2.length uc] 36)
    obtain ⟨r0, r1, r2⟩ := cells3v h1
    clear h1
    go_enter Try.func28, Try.ntmps28
    go_wp2
    exact bodyPost_ret (v := .agg #[.int .u64 y0, .int .u64 y1, .slice ua y2.length uc]) (by simp [results, Try.results28, go_sem, r0, r1, r2]) rfl ⟨_, rfl, ⟨_, rfl, HD.out.kept HK.out (fun _ _ h => h)⟩, HK.out⟩
-- LASTOF END
/-- bytes.Clone: a slice of the call's own. -/
theorem Clone_own15 (v : Value) (l : List Int) (F : Nat → Prop) (w : World) (h : BSl w F v l) (hl : l.length ≤ 1000000) :
    Calls Try.prog 83 #[v] w fun e w' => ∃ v', e = .returned v' ∧ Own w' (fun k => w.heap.size ≤ k) v' l ∧ Kept NoB w w' := by
  obtain ⟨i0, hi0, hz0, hz1, hz2⟩ := info_parts Try.info5
  have HB := Lib.hid h
  obtain ⟨a, cap, rfl, hc, hm, hn, hr⟩ := h
  have hq := fun (w : World) => Lib.run_eql_slice_nil (P := Try.prog) w 34 5 a l.length cap 0 0 Try.underlying34
  rcases a with _ | ad
  · have h0 := hn rfl
    subst h0
    have hl : l = [] := List.eq_nil_of_length_eq_zero (by omega)
    subst hl
    simp only [Option.isNone, List.length_nil] at hq
    go_enter Try.func83, Try.ntmps83
    go_wp2
    go_ret
    exact ⟨_, rfl, Own.nil _ _, Kept.refl _ _⟩
  · simp only [Option.isNone] at hq
    clear hr hn
    go_enter Try.func83, Try.ntmps83
    go_wp2_with (at_builtin; refine wpList_append_bsl _ rfl (.tmp 5) (.tmp 6) _ rfl 5 i0 _ Try.underlying34 hi0 hz0 hz1 hz2 rfl (.slice (some ⟨w.heap.size, 0, none⟩) 0 0) 0 [] rfl (World.ownsRow_made w #[] 0 (Nat.zero_le _) (by decide) rfl) F _ l rfl (HB.out.kept ((Kept.refl NoB _).alloc _) (fun _ _ h => h)) (by omega) ?_; intro a' c' w1 hown1 hg1 hat1)
    go_ret
    have hk1 : Kept NoB w w1 := ((Kept.refl _ _).alloc _).grown hg1 (fun k hk => .inr (by simp [Value.ownBlock] at hk; omega))
    simp only [Nat.zero_add, List.nil_append] at hown1 hat1
    refine ⟨.slice a' l.length c', rfl, ⟨HB.out.isB, hown1, fun k hk => ?_⟩, hk1⟩
    rcases hat1 with e | e <;> rw [e] at hk <;> simp [Value.ownBlock] at hk <;> omega
set_option maxRecDepth 100000 in
theorem VCopyOf_any (w : World) (v : Value) (x : Vn) (F : Nat → Prop) (h : VnV w F v x) (hl : x.d.length ≤ 1000000) : Calls Try.prog 74 #[v] w fun e w' => ∃ v', e = .returned v' ∧ VnO w' (fun k => w.heap.size ≤ k) v' x ∧ Kept NoB w w' := by
  obtain ⟨u, rfl, hd⟩ := h
  obtain ⟨y0, y1, y2⟩ := x
  simp only at hd hl ⊢
  have hk2 := ((Kept.refl NoB w).alloc (.cells #[.int .u64 y0, .int .u64 y1, u] 43)).alloc (.cells #[.int .u64 0, .int .u64 0, .slice none 0 0] 43)
  have h1 := heap_alloc_new w (.cells #[.int .u64 y0, .int .u64 y1, u] 43)
  have h2 := heap_alloc_new (w.alloc (.cells #[.int .u64 y0, .int .u64 y1, u] 43)) (.cells #[.int .u64 0, .int .u64 0, .slice none 0 0] 43)
  have HC := Lib.hid (Clone_own15 u y2 F _ (hd.kept hk2 (fun _ _ h => h)) hl)
  have h1' := blkV_alloc h1 (.cells #[.int .u64 0, .int .u64 0, .slice none 0 0] 43)
  rw [show (w.alloc (.cells #[.int .u64 y0, .int .u64 y1, u] 43)).heap.size = w.heap.size + 1 by simp] at h2
  obtain ⟨ua, uc, rfl, _⟩ := hd
  have HK := Lib.hid hk2
  have H1 := Lib.hid h1'
  have H2 := Lib.hid h2
  have HZ : Hid (((w.alloc (.cells #[.int .u64 y0, .int .u64 y1, .slice ua y2.length uc] 43)).alloc (.cells #[.int .u64 0, .int .u64 0, .slice none 0 0] 43)).heap.size = w.heap.size + 2) := Lib.hid (by simp)
  clear hk2 h1 h2 h1' hl
  go_enter Try.func74, Try.ntmps74
  go_wp2_with fail
  refine HC.out.mono ?_
  rintro e w1 ⟨v', rfl, hv, hk⟩
  obtain ⟨va, vc, rfl⟩ := own_form hv.2.1
  have HV := Lib.hid (hv.mono (G := fun k => w.heap.size + 2 ≤ k) (fun k _ h => by have := HZ.out; omega))
  have HK1 := Lib.hid (HK.out.trans hk (fun _ _ h => h))
  have h1 := hk.heap (fun h => h) H1.out
  have h2 := hk.heap (fun h => h) H2.out
  obtain ⟨c0, c1, c2⟩ := cells3v h1
  obtain ⟨r0, r1, r2⟩ := cells3v h2
  have z1 := blkV_frozen h1
  have z2 := blkV_frozen h2
  have H1' := Lib.hid h1
  have H2' := Lib.hid h2
  have hne : ¬ w.heap.size + 1 = w.heap.size := by omega
  have hne2 : ¬ w.heap.size = w.heap.size + 1 := by omega
  clear hk hv h1 h2
  go_wp2
  have hF := three15_at (blkV_set_other H2'.out 2 (.slice va y2.length vc) hne2) (.int .u64 y0) (.int .u64 y1) (.slice va y2.length vc)
  have hK := (HK1.out.setCell (p := ⟨w.heap.size, 2, none⟩) (.inr (Nat.le_refl _)) (.slice va y2.length vc)).three15 (b := w.heap.size + 1) (.inr (by omega)) 0 (.int .u64 y0) (.int .u64 y1) (.slice va y2.length vc)
  have hO := HV.out.kept (((Kept.refl (fun k => k < w.heap.size + 2) w1).setCell (p := ⟨w.heap.size, 2, none⟩) (.inl (by show w.heap.size < w.heap.size + 2; omega)) (.slice va y2.length vc)).three15 (b := w.heap.size + 1) (.inl (by omega)) 0 (.int .u64 y0) (.int .u64 y1) (.slice va y2.length vc)) (fun k h h' => by omega)
  clear c0 c1 c2 r0 r1 r2 z1 z2
  obtain ⟨r0, r1, r2⟩ := cells3v hF
  clear hF
  unfold three15 at r0 r1 r2 hK hO
  simp only [Nat.zero_add] at r0 r1 r2 hK hO
  generalize hW : World.setCell _ _ _ = W3 at r0 r1 r2 hK hO ⊢
  exact bodyPost_ret (v := .agg #[.int .u64 y0, .int .u64 y1, .slice va y2.length vc]) (by simp [results, Try.results74, go_sem, r0, r1, r2]) rfl ⟨_, rfl, ⟨_, rfl, hO.mono (fun k _ h => by omega)⟩, hK⟩
end Go.Proofs.Ytnmclhgljpcjcaa
