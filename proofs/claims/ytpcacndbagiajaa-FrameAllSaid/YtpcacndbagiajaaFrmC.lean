/-
  Package frame: Cut, Get, Counts, over cut.
-/
import Derived.Test.YtpcacndbagiajaaFrmB
namespace Go.Proofs.Ytpcacndbagiajaa
open Go.RowKit

/-- Add to a count. -/
theorem UAdd_any (g o : Nat) (x d : Int) (w : World) (hc : w.cell? ⟨g, o, none⟩ = some (.int .u64 x)) (hz : w.frozen? ⟨g, o, none⟩ = false) (h0 : 0 ≤ x) (h1 : x < 1000000) (h2 : 0 ≤ d) (h3 : d < 1000000) :
    Calls Try.prog 72 #[.pointer (some ⟨g, o, none⟩), .int .u64 d] w fun e w' => e = .returned (.int .u64 (x + d)) ∧ w' = w.setCell ⟨g, o, none⟩ (.int .u64 (x + d)) := by
  have hs : (Op.intArith .add .u64 x d).run Try.prog w = .ok (.int .u64 (x + d)) w := by
    have := IntWalk.u64_in (x + d) (by omega)
    simp [go_sem, this]
  have ha := run_call_add (P := Try.prog) Try.func86 (by kernel_rfl) (by kernel_rfl) (by kernel_rfl) .u64 (by kernel_rfl) hc hz hs
  go_enter Try.func72, Try.ntmps72
  go_wp2
  go_ret
  exact ⟨rfl, rfl⟩
theorem ULoad_any (g o : Nat) (x : Int) (w : World) (hc : w.cell? ⟨g, o, none⟩ = some (.int .u64 x)) (h0 : 0 ≤ x) (h1 : x < 1000000000) :
    Calls Try.prog 73 #[.pointer (some ⟨g, o, none⟩)] w fun e w' => e = .returned (.int .u64 x) ∧ w = w' := by
  have hl := run_call_load (P := Try.prog) Try.func87 (by kernel_rfl) (by kernel_rfl) (by kernel_rfl) .u64 (by kernel_rfl) hc
  have hw : IntKind.u64.wrap x = x := IntWalk.u64_in _ (by omega)
  go_enter Try.func73, Try.ntmps73
  go_wp2
  go_ret
  exact ⟨rfl, rfl⟩

/-- The counts behind one more answer. -/
theorem CodecAt.good {w : World} {g t : Nat} {x y : Int} (h : CodecAt w g t x y) (z : Int) : CodecAt (w.setCell ⟨g, 1, none⟩ (.int .u64 z)) g t z y := by
  unfold CodecAt at *
  simp [World.setCell, Array.getElem?_modify, h]
theorem CodecAt.bad {w : World} {g t : Nat} {x y : Int} (h : CodecAt w g t x y) (z : Int) : CodecAt (w.setCell ⟨g, 2, none⟩ (.int .u64 z)) g t x z := by
  unfold CodecAt at *
  simp [World.setCell, Array.getElem?_modify, h]
/-- The counts behind an answer. -/
def goodN (e x d : Int) : Int := if e = 0 then x + d else x
def badN (e y : Int) : Int := if e = 0 then y else y + 1
def Two (g t : Nat) : Nat → Prop := fun k => k = g ∨ k = t

theorem cutF_bd (l : List Int) : 0 ≤ (cutF l).err ∧ (cutF l).err < 100 := by
  unfold cutF
  split
  · exact sizeF_bd l
  · split
    · exact ⟨by show (0 : Int) ≤ 0; decide, by show (0 : Int) < 100; decide⟩
    · exact ⟨by show (0 : Int) ≤ 5; decide, by show (5 : Int) < 100; decide⟩

theorem cutF_err (l : List Int) (h : (cutF l).err ≠ 0) : (cutF l).kind = 0 ∧ (cutF l).body = [] ∧ (cutF l).n = 0 := by
  unfold cutF at h ⊢
  by_cases h1 : (sizeF l).2 ≠ 0
  · rw [if_pos h1]; exact ⟨rfl, rfl, rfl⟩
  · rw [if_neg h1] at h ⊢
    by_cases h2 : fitsB (l.take (lenF l + 7)) = true
    · rw [if_pos h2] at h; exact absurd rfl h
    · rw [if_neg h2]; exact ⟨rfl, rfl, rfl⟩

set_option maxRecDepth 100000 in
/-- Cut. -/
theorem Cut3_any (g t : Nat) (m : Bool) (x y : Int) (v : Value) (l : List Int) (F : Nat → Prop) (w : World) (hc : CodecAt w g t x y) (ht : TabAt w t m) (h : BSl w F v l) (hF : ¬ F t) (hgt : g ≠ t) (hx0 : 0 ≤ x) (hx1 : x < 100000) (hy0 : 0 ≤ y) (hy1 : y < 100000) :
    Calls Try.prog 45 #[.pointer (some ⟨g, 0, none⟩), v] w fun e w' => ∃ v', e = .returned (.tuple #[.agg #[.int .u8 (cutF l).kind, v'], .int .i64 (cutF l).n, .int .i64 (cutF l).err]) ∧ Own w' (fun k => w.heap.size ≤ k) v' (cutF l).body ∧ TabSome w' t ∧ CodecAt w' g t (goodN (cutF l).err x 1) (badN (cutF l).err y) ∧ Kept (Two g t) w w' := by
  have HB := Lib.hid h
  have HC := Lib.hid hc
  have HT := Lib.hid ht
  have htl := ht.lt
  have hgl := hc.lt
  obtain ⟨a, cap, rfl, _⟩ := h
  clear hc ht
  obtain ⟨er, her⟩ : ∃ er, er = (cutF l).err := ⟨_, rfl⟩
  have hbd := cutF_bd l
  rw [← her] at hbd ⊢
  have HER := Lib.hid her
  clear her
  have hF0 : Hid (cutF l = ⟨(cutF l).kind, (cutF l).body, (cutF l).n, er⟩) := by show cutF l = _; rw [HER.out]
  obtain ⟨kd, hkd⟩ : ∃ kd, kd = (cutF l).kind := ⟨_, rfl⟩
  obtain ⟨bd, hbdy⟩ : ∃ bd, bd = (cutF l).body := ⟨_, rfl⟩
  obtain ⟨n, hn⟩ : ∃ n, n = (cutF l).n := ⟨_, rfl⟩
  rw [← hkd, ← hbdy, ← hn]
  have HKD := Lib.hid hkd
  have HBD := Lib.hid hbdy
  have HNN := Lib.hid hn
  clear hkd hbdy hn hF0
  go_enter Try.func45, Try.ntmps45
  go_wp2_with fail
  refine (cut_any g t m x y _ l F _ (HC.out.kept (S := NoB) ((Kept.refl _ _).alloc _) (fun h => h)) (HT.out.kept (S := NoB) ((Kept.refl _ _).alloc _) (fun h => h)) (HB.out.kept (S := NoB) ((Kept.refl _ _).alloc _) (fun _ _ h => h)) hF).mono ?_
  rintro e w1 ⟨v1, rfl, hv1, ht1, hk1⟩
  rw [← HKD.out, ← HNN.out, ← HER.out]
  rw [← HBD.out] at hv1
  obtain ⟨va, vc, rfl⟩ := own_form hv1.2.1
  have HV1 := Lib.hid hv1
  have HT1 := Lib.hid ht1
  have hb1 : w1.heap[w.heap.size]? = some (.cells #[.int .u8 0, .slice none 0 0] 81 (0, 0)) := hk1.heap (fun h => by have e : w.heap.size = t := h; omega) (heap_alloc_new w _)
  have HB1 := Lib.hid hb1
  have HK1 := Lib.hid (((Kept.refl (One t) w).alloc _).trans hk1 (fun _ _ h => h))
  have hc1 := HC.out.kept HK1.out (fun h => by have e : g = t := h; exact hgt e)
  have HC1 := Lib.hid hc1
  obtain ⟨cg0, cg1, cg2, cgz, hg1⟩ := hc1.cells
  have hsz := heap_lt hb1
  clear hv1 ht1 hb1 hk1 hc1
  by_cases he : er = 0
  · have hb : (er != 0) = false := by rw [he]; rfl
    have HE := Lib.hid he
    clear he
    go_wp2_with fail
    refine (UAdd_any g 1 x 1 _ (cell_alloc cg1 _) (frozen_alloc hg1 (cgz 1) _) hx0 (by omega) (by omega) (by omega)).mono ?_
    rintro e w2 ⟨rfl, hw2⟩
    have hk2 : Kept (One g) (w1.alloc (.cells #[.int .u8 kd, .slice va bd.length vc] 81)) w2 := by rw [hw2]; exact (Kept.refl _ _).one 1 _
    have hk12 : Kept (One g) w1 w2 := ((Kept.refl _ w1).alloc _).trans hk2 (fun _ _ h => h)
    have hC2 : CodecAt w2 g t (x + 1) y := by
      have := (HC1.out.kept (S := NoB) ((Kept.refl _ w1).alloc (.cells #[.int .u8 kd, .slice va bd.length vc] 81)) (fun h => h)).good (x + 1)
      rw [← hw2] at this; exact this
    have hb2 : w2.heap[w1.heap.size]? = some (.cells #[.int .u8 kd, .slice va bd.length vc] 81 (0, 0)) := hk2.heap (fun h => by have e : w1.heap.size = g := h; omega) (heap_alloc_new w1 _)
    have hb3 := hk12.heap (fun h => by have e : w.heap.size = g := h; omega) HB1.out
    have a0 : w2.cell? ⟨w1.heap.size, 0, none⟩ = some (.int .u8 kd) := cell_of_row w2 _ 0 _ _ _ hb2
    have a1 : w2.cell? ⟨w1.heap.size, 1, none⟩ = some (.slice va bd.length vc) := cell_of_row w2 _ 1 _ _ _ hb2
    have d0 : w2.cell? ⟨w.heap.size, 0, none⟩ = some (.int .u8 0) := cell_of_row w2 _ 0 _ _ _ hb3
    have d1 : w2.cell? ⟨w.heap.size, 1, none⟩ = some (.slice none 0 0) := cell_of_row w2 _ 1 _ _ _ hb3
    have e0 := blk_frozen hb3 0
    have e1 := blk_frozen hb3 1
    have hs2 := heap_lt hb3
    have HC2 := Lib.hid hC2
    have HK12 := Lib.hid hk12
    clear hw2 hk2 hk12 hC2 hb2 hb3 cg0 cg1 cg2 cgz
    go_wp2
    refine bodyPost_ret (v := .tuple #[.agg #[.int .u8 kd, .slice va bd.length vc], .int .i64 n, .int .i64 0]) (by simp [results, Try.results45, go_sem, d0, d1]) rfl ?_
    have hst : Kept (One w.heap.size) w2 ((w2.setCell ⟨w.heap.size, 0, none⟩ (.int .u8 kd)).setCell ⟨w.heap.size, 1, none⟩ (.slice va bd.length vc)) := ((Kept.refl (One w.heap.size) w2).one 0 _).one 1 _
    have hk : Kept (fun k => k = g ∨ k = w.heap.size) w1 ((w2.setCell ⟨w.heap.size, 0, none⟩ (.int .u8 kd)).setCell ⟨w.heap.size, 1, none⟩ (.slice va bd.length vc)) := (HK12.out.mono (fun i _ h => .inl h)).trans hst (fun i _ h => .inr h)
    have hgn : goodN er x 1 = x + 1 := if_pos HE.out
    have hbn : badN er y = y := if_pos HE.out
    rw [HE.out] at hgn hbn ⊢
    rw [hgn, hbn]
    refine ⟨_, rfl, (HV1.out.mono (G := fun k => w.heap.size < k) (fun k _ h => by simp at h; omega)).kept hk (fun k h1 h2 => by rcases h2 with h2 | h2 <;> omega) |>.mono (fun k _ h => Nat.le_of_lt h), HT1.out.kept hk (fun h => by rcases h with h | h <;> omega), HC2.out.kept hst (fun h => by have e : g = w.heap.size := h; omega), (HK1.out.mono (fun i _ h => .inr h)).trans hk (fun i hi h => by rcases h with h | h; exact .inl h; omega)⟩
  · have hb : (er != 0) = true := by simpa using he
    have HE := Lib.hid he
    clear he
    go_wp2_with fail
    refine (UAdd_any g 2 y 1 _ (cell_alloc cg2 _) (frozen_alloc hg1 (cgz 2) _) hy0 (by omega) (by omega) (by omega)).mono ?_
    rintro e w2 ⟨rfl, hw2⟩
    have hk2 : Kept (One g) (w1.alloc (.cells #[.int .u8 kd, .slice va bd.length vc] 81)) w2 := by rw [hw2]; exact (Kept.refl _ _).one 2 _
    have hk12 : Kept (One g) w1 w2 := ((Kept.refl _ w1).alloc _).trans hk2 (fun _ _ h => h)
    have hC2 : CodecAt w2 g t x (y + 1) := by
      have := (HC1.out.kept (S := NoB) ((Kept.refl _ w1).alloc (.cells #[.int .u8 kd, .slice va bd.length vc] 81)) (fun h => h)).bad (y + 1)
      rw [← hw2] at this; exact this
    have hb3 := hk12.heap (fun h => by have e : w.heap.size = g := h; omega) HB1.out
    have d0 : w2.cell? ⟨w.heap.size, 0, none⟩ = some (.int .u8 0) := cell_of_row w2 _ 0 _ _ _ hb3
    have d1 : w2.cell? ⟨w.heap.size, 1, none⟩ = some (.slice none 0 0) := cell_of_row w2 _ 1 _ _ _ hb3
    have e0 := blk_frozen hb3 0
    have e1 := blk_frozen hb3 1
    have hs2 := heap_lt hb3
    have HC2 := Lib.hid hC2
    have HK12 := Lib.hid hk12
    clear hw2 hk2 hk12 hC2 hb3 cg0 cg1 cg2 cgz
    go_wp2
    refine bodyPost_ret (v := .tuple #[.agg #[.int .u8 0, .slice none 0 0], .int .i64 0, .int .i64 er]) (by simp [results, Try.results45, go_sem, d0, d1]) rfl ?_
    have hst : Kept (One w.heap.size) w2 ((w2.setCell ⟨w.heap.size, 0, none⟩ (.int .u8 0)).setCell ⟨w.heap.size, 1, none⟩ (.slice none 0 0)) := ((Kept.refl (One w.heap.size) w2).one 0 _).one 1 _
    have hk : Kept (fun k => k = g ∨ k = w.heap.size) w1 ((w2.setCell ⟨w.heap.size, 0, none⟩ (.int .u8 0)).setCell ⟨w.heap.size, 1, none⟩ (.slice none 0 0)) := (HK12.out.mono (fun i _ h => .inl h)).trans hst (fun i _ h => .inr h)
    have hz := cutF_err l (by rw [← HER.out]; exact HE.out)
    rw [← HKD.out, ← HBD.out, ← HNN.out] at hz
    rw [show goodN er x 1 = x from if_neg HE.out, show badN er y = y + 1 from if_neg HE.out, hz.1, hz.2.1, hz.2.2]
    refine ⟨_, rfl, Own.nil _ _, HT1.out.kept hk (fun h => by rcases h with h | h <;> omega), HC2.out.kept hst (fun h => by have e : g = w.heap.size := h; omega), (HK1.out.mono (fun i _ h => .inr h)).trans hk (fun i hi h => by rcases h with h | h; exact .inl h; omega)⟩
end Go.Proofs.Ytpcacndbagiajaa
