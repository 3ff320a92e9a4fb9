/-
  Package frame: Get.
-/
import Derived.Test.YtpcacndbagiajaaFrmC
namespace Go.Proofs.Ytpcacndbagiajaa
open Go.RowKit

/-- What bytes are, all of them. -/
def getF (l : List Int) : FR := if (cutF l).err = 0 ∧ (cutF l).n < (l.length : Int) then ⟨0, [], 0, 4⟩ else cutF l

set_option maxRecDepth 100000 in
/-- Get. -/
theorem Get3_any (g t : Nat) (m : Bool) (x y : Int) (v : Value) (l : List Int) (F : Nat → Prop) (w : World) (hc : CodecAt w g t x y) (ht : TabAt w t m) (h : BSl w F v l) (hF : ¬ F t) (hgt : g ≠ t) (hx0 : 0 ≤ x) (hx1 : x < 100000) (hy0 : 0 ≤ y) (hy1 : y < 100000) :
    Calls Try.prog 47 #[.pointer (some ⟨g, 0, none⟩), v] w fun e w' => ∃ v', e = .returned (.tuple #[.agg #[.int .u8 (getF l).kind, v'], .int .i64 (getF l).err]) ∧ Own w' (fun k => w.heap.size ≤ k) v' (getF l).body ∧ TabSome w' t ∧ CodecAt w' g t (goodN (getF l).err x 1) (badN (getF l).err y) ∧ Kept (Two g t) w w' := by
  have HB := Lib.hid h
  have HC := Lib.hid hc
  have HT := Lib.hid ht
  have htl := ht.lt
  have hgl := hc.lt
  obtain ⟨a, cap, rfl, _⟩ := h
  clear hc ht
  obtain ⟨er, her⟩ : ∃ er, er = (cutF l).err := ⟨_, rfl⟩
  have hbd := cutF_bd l
  rw [← her] at hbd
  have HER := Lib.hid her
  clear her
  obtain ⟨kd, hkd⟩ : ∃ kd, kd = (cutF l).kind := ⟨_, rfl⟩
  obtain ⟨bd, hbdy⟩ : ∃ bd, bd = (cutF l).body := ⟨_, rfl⟩
  obtain ⟨n, hn⟩ : ∃ n, n = (cutF l).n := ⟨_, rfl⟩
  have HKD := Lib.hid hkd
  have HBD := Lib.hid hbdy
  have HNN := Lib.hid hn
  clear hkd hbdy hn
  go_enter Try.func47, Try.ntmps47
  go_wp2_with fail
  refine (cut_any g t m x y _ l F _ (HC.out.kept (S := NoB) ((Kept.refl _ _).alloc _) (fun h => h)) (HT.out.kept (S := NoB) ((Kept.refl _ _).alloc _) (fun h => h)) (HB.out.kept (S := NoB) ((Kept.refl _ _).alloc _) (fun _ _ h => h)) hF).mono ?_
  rintro e w1 ⟨v1, rfl, hv1, ht1, hk1⟩
  rw [← HKD.out, ← HNN.out, ← HER.out]
  rw [← HBD.out] at hv1
  obtain ⟨va, vc, rfl⟩ := own_form hv1.2.1
  have HV1 := Lib.hid hv1
  have HT1 := Lib.hid ht1
  have hb1 : w1.heap[w.heap.size]? = some (.cells #[.int .u8 0, .slice none 0 0] 81 (0, 0)) := hk1.heap (fun h => by have e : w.heap.size = t := h; omega) (heap_alloc_new w _)
  have HB1 := Lib.hid hb1
  have HK1 := Lib.hid (((Kept.refl (One t) w).alloc _).trans hk1 (fun _ _ h => h))
  have hc1 := HC.out.kept HK1.out (fun h => by have e : g = t := h; exact hgt e)
  have HC1 := Lib.hid hc1
  obtain ⟨cg0, cg1, cg2, cgz, hg1⟩ := hc1.cells
  have hsz := heap_lt hb1
  clear hv1 ht1 hb1 hk1 hc1
  by_cases he : er = 0 ∧ ¬ n < (l.length : Int)
  · have hb : (er != 0) = false := by rw [he.1]; rfl
    have hb2 : (er == 0) = true := by rw [he.1]; rfl
    have hb3 : decide (n < (l.length : Int)) = false := decide_eq_false he.2
    have HE := Lib.hid he.1
    have HG := Lib.hid (show getF l = cutF l by unfold getF; rw [← HER.out, ← HNN.out, if_neg (fun h => he.2 h.2)])
    clear he
    go_wp2_with fail
    refine (UAdd_any g 1 x 1 _ (cell_alloc cg1 _) (frozen_alloc hg1 (cgz 1) _) hx0 (by omega) (by omega) (by omega)).mono ?_
    rintro e w2 ⟨rfl, hw2⟩
    have hk2 : Kept (One g) (w1.alloc (.cells #[.int .u8 kd, .slice va bd.length vc] 81)) w2 := by rw [hw2]; exact (Kept.refl _ _).one 1 _
    have hk12 : Kept (One g) w1 w2 := ((Kept.refl _ w1).alloc _).trans hk2 (fun _ _ h => h)
    have hC2 : CodecAt w2 g t (x + 1) y := by
      have := (HC1.out.kept (S := NoB) ((Kept.refl _ w1).alloc (.cells #[.int .u8 kd, .slice va bd.length vc] 81)) (fun h => h)).good (x + 1)
      rw [← hw2] at this; exact this
    have hb2 : w2.heap[w1.heap.size]? = some (.cells #[.int .u8 kd, .slice va bd.length vc] 81 (0, 0)) := hk2.heap (fun h => by have e : w1.heap.size = g := h; omega) (heap_alloc_new w1 _)
    have hb3 := hk12.heap (fun h => by have e : w.heap.size = g := h; omega) HB1.out
    have a0 : w2.cell? ⟨w1.heap.size, 0, none⟩ = some (.int .u8 kd) := cell_of_row w2 _ 0 _ _ _ hb2
    have a1 : w2.cell? ⟨w1.heap.size, 1, none⟩ = some (.slice va bd.length vc) := cell_of_row w2 _ 1 _ _ _ hb2
    have d0 : w2.cell? ⟨w.heap.size, 0, none⟩ = some (.int .u8 0) := cell_of_row w2 _ 0 _ _ _ hb3
    have d1 : w2.cell? ⟨w.heap.size, 1, none⟩ = some (.slice none 0 0) := cell_of_row w2 _ 1 _ _ _ hb3
    have e0 := blk_frozen hb3 0
    have e1 := blk_frozen hb3 1
    have hs2 := heap_lt hb3
    have HC2 := Lib.hid hC2
    have HK12 := Lib.hid hk12
    clear hw2 hk2 hk12 hC2 hb2 hb3 cg0 cg1 cg2 cgz
    go_wp2
    refine bodyPost_ret (v := .tuple #[.agg #[.int .u8 kd, .slice va bd.length vc], .int .i64 0]) (by simp [results, Try.results47, go_sem, d0, d1]) rfl ?_
    have hst : Kept (One w.heap.size) w2 ((w2.setCell ⟨w.heap.size, 0, none⟩ (.int .u8 kd)).setCell ⟨w.heap.size, 1, none⟩ (.slice va bd.length vc)) := ((Kept.refl (One w.heap.size) w2).one 0 _).one 1 _
    have hk : Kept (fun k => k = g ∨ k = w.heap.size) w1 ((w2.setCell ⟨w.heap.size, 0, none⟩ (.int .u8 kd)).setCell ⟨w.heap.size, 1, none⟩ (.slice va bd.length vc)) := (HK12.out.mono (fun i _ h => .inl h)).trans hst (fun i _ h => .inr h)
    have hgn : goodN er x 1 = x + 1 := if_pos HE.out
    have hbn : badN er y = y := if_pos HE.out
    rw [HE.out] at hgn hbn
    rw [HG.out, ← HKD.out, ← HBD.out, ← HER.out, HE.out, hgn, hbn]
    refine ⟨_, rfl, (HV1.out.mono (G := fun k => w.heap.size < k) (fun k _ h => by simp at h; omega)).kept hk (fun k h1 h2 => by rcases h2 with h2 | h2 <;> omega) |>.mono (fun k _ h => Nat.le_of_lt h), HT1.out.kept hk (fun h => by rcases h with h | h <;> omega), HC2.out.kept hst (fun h => by have e : g = w.heap.size := h; omega), (HK1.out.mono (fun i _ h => .inr h)).trans hk (fun i hi h => by rcases h with h | h; exact .inl h; omega)⟩
  · have HG := Lib.hid (show getF l = ⟨0, [], 0, if er = 0 then 4 else er⟩ by
      unfold getF
      rw [← HER.out, ← HNN.out]
      by_cases h0 : er = 0
      · rw [if_pos h0, if_pos ⟨h0, by omega⟩]
      · rw [if_neg h0, if_neg (fun h => h0 h.1)]
        have hz := cutF_err l (by rw [← HER.out]; exact h0)
        have h4 : cutF l = ⟨(cutF l).kind, (cutF l).body, (cutF l).n, (cutF l).err⟩ := rfl
        rw [h4, hz.1, hz.2.1, hz.2.2, ← HER.out])
    obtain ⟨ee, hee⟩ : ∃ ee, ee = (if er = 0 then 4 else er) := ⟨_, rfl⟩
    rw [← hee] at HG
    have hcase : (er = 0 ∧ ee = 4 ∧ n < (l.length : Int)) ∨ (er ≠ 0 ∧ ee = er) := by
      by_cases h0 : er = 0
      · exact .inl ⟨h0, by rw [hee, if_pos h0], by omega⟩
      · exact .inr ⟨h0, by rw [hee, if_neg h0]⟩
    have hee0 : ee ≠ 0 := by omega
    have HE := Lib.hid hee0
    clear he hee hee0
    rcases hcase with ⟨h1, h2, h3⟩ | ⟨h1, h2⟩
    · subst h1
      subst h2
      go_wp2_with fail
      refine (UAdd_any g 2 y 1 _ (cell_alloc cg2 _) (frozen_alloc hg1 (cgz 2) _) hy0 (by omega) (by omega) (by omega)).mono ?_
      rintro e w2 ⟨rfl, hw2⟩
      have hk2 : Kept (One g) (w1.alloc (.cells #[.int .u8 kd, .slice va bd.length vc] 81)) w2 := by rw [hw2]; exact (Kept.refl _ _).one 2 _
      have hk12 : Kept (One g) w1 w2 := ((Kept.refl _ w1).alloc _).trans hk2 (fun _ _ h => h)
      have hC2 : CodecAt w2 g t x (y + 1) := by
        have := (HC1.out.kept (S := NoB) ((Kept.refl _ w1).alloc (.cells #[.int .u8 kd, .slice va bd.length vc] 81)) (fun h => h)).bad (y + 1)
        rw [← hw2] at this; exact this
      have hb3 := hk12.heap (fun h => by have e : w.heap.size = g := h; omega) HB1.out
      have d0 : w2.cell? ⟨w.heap.size, 0, none⟩ = some (.int .u8 0) := cell_of_row w2 _ 0 _ _ _ hb3
      have d1 : w2.cell? ⟨w.heap.size, 1, none⟩ = some (.slice none 0 0) := cell_of_row w2 _ 1 _ _ _ hb3
      have e0 := blk_frozen hb3 0
      have e1 := blk_frozen hb3 1
      have hs2 := heap_lt hb3
      have HC2 := Lib.hid hC2
      have HK12 := Lib.hid hk12
      clear hw2 hk2 hk12 hC2 hb3 cg0 cg1 cg2 cgz
      go_wp2
      refine bodyPost_ret (v := .tuple #[.agg #[.int .u8 0, .slice none 0 0], .int .i64 4]) (by simp [results, Try.results47, go_sem, d0, d1]) rfl ?_
      have hst : Kept (One w.heap.size) w2 ((w2.setCell ⟨w.heap.size, 0, none⟩ (.int .u8 0)).setCell ⟨w.heap.size, 1, none⟩ (.slice none 0 0)) := ((Kept.refl (One w.heap.size) w2).one 0 _).one 1 _
      have hk : Kept (fun k => k = g ∨ k = w.heap.size) w1 ((w2.setCell ⟨w.heap.size, 0, none⟩ (.int .u8 0)).setCell ⟨w.heap.size, 1, none⟩ (.slice none 0 0)) := (HK12.out.mono (fun i _ h => .inl h)).trans hst (fun i _ h => .inr h)
      rw [HG.out]
      have hgn : goodN 4 x 1 = x := if_neg HE.out
      have hbn : badN 4 y = y + 1 := if_neg HE.out
      rw [hgn, hbn]
      refine ⟨_, rfl, Own.nil _ _, HT1.out.kept hk (fun h => by rcases h with h | h <;> omega), HC2.out.kept hst (fun h => by have e : g = w.heap.size := h; omega), (HK1.out.mono (fun i _ h => .inr h)).trans hk (fun i hi h => by rcases h with h | h; exact .inl h; omega)⟩
    · subst h2
      have hb : (ee != 0) = true := by simpa using h1
      have hb2 : (ee == 0) = false := by simpa using h1
      go_wp2_with fail
      refine (UAdd_any g 2 y 1 _ (cell_alloc cg2 _) (frozen_alloc hg1 (cgz 2) _) hy0 (by omega) (by omega) (by omega)).mono ?_
      rintro e w2 ⟨rfl, hw2⟩
      have hk2 : Kept (One g) (w1.alloc (.cells #[.int .u8 kd, .slice va bd.length vc] 81)) w2 := by rw [hw2]; exact (Kept.refl _ _).one 2 _
      have hk12 : Kept (One g) w1 w2 := ((Kept.refl _ w1).alloc _).trans hk2 (fun _ _ h => h)
      have hC2 : CodecAt w2 g t x (y + 1) := by
        have := (HC1.out.kept (S := NoB) ((Kept.refl _ w1).alloc (.cells #[.int .u8 kd, .slice va bd.length vc] 81)) (fun h => h)).bad (y + 1)
        rw [← hw2] at this; exact this
      have hb3 := hk12.heap (fun h => by have e : w.heap.size = g := h; omega) HB1.out
      have d0 : w2.cell? ⟨w.heap.size, 0, none⟩ = some (.int .u8 0) := cell_of_row w2 _ 0 _ _ _ hb3
      have d1 : w2.cell? ⟨w.heap.size, 1, none⟩ = some (.slice none 0 0) := cell_of_row w2 _ 1 _ _ _ hb3
      have e0 := blk_frozen hb3 0
      have e1 := blk_frozen hb3 1
      have hs2 := heap_lt hb3
      have HC2 := Lib.hid hC2
      have HK12 := Lib.hid hk12
      clear hw2 hk2 hk12 hC2 hb3 cg0 cg1 cg2 cgz
      go_wp2
      refine bodyPost_ret (v := .tuple #[.agg #[.int .u8 0, .slice none 0 0], .int .i64 ee]) (by simp [results, Try.results47, go_sem, d0, d1]) rfl ?_
      have hst : Kept (One w.heap.size) w2 ((w2.setCell ⟨w.heap.size, 0, none⟩ (.int .u8 0)).setCell ⟨w.heap.size, 1, none⟩ (.slice none 0 0)) := ((Kept.refl (One w.heap.size) w2).one 0 _).one 1 _
      have hk : Kept (fun k => k = g ∨ k = w.heap.size) w1 ((w2.setCell ⟨w.heap.size, 0, none⟩ (.int .u8 0)).setCell ⟨w.heap.size, 1, none⟩ (.slice none 0 0)) := (HK12.out.mono (fun i _ h => .inl h)).trans hst (fun i _ h => .inr h)
      rw [HG.out]
      have hgn : goodN ee x 1 = x := if_neg HE.out
      have hbn : badN ee y = y + 1 := if_neg HE.out
      rw [hgn, hbn]
      refine ⟨_, rfl, Own.nil _ _, HT1.out.kept hk (fun h => by rcases h with h | h <;> omega), HC2.out.kept hst (fun h => by have e : g = w.heap.size := h; omega), (HK1.out.mono (fun i _ h => .inr h)).trans hk (fun i hi h => by rcases h with h | h; exact .inl h; omega)⟩
end Go.Proofs.Ytpcacndbagiajaa
