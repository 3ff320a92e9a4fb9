/-
  Package frame: size, cut.
-/
import Derived.Test.YtpcacndbagiajaaFrmA
import Derived.Test.YtpcacndbagiajaaInB
import Derived.Test.YtpcacndbagiajaaRefB
namespace Go.Proofs.Ytpcacndbagiajaa
open Go.RowKit

/-- A frame's length, as its header tells it. -/
def lenF (l : List Int) : Nat := num ((l.drop 1).take 2)
def sizeF (l : List Int) : Int × Int :=
  if l.length < 3 then (0, 3) else if l.getD 0 0 = 0 then (0, 4) else if 16384 < lenF l then (0, 6) else if l.length < lenF l + 7 then (0, 3) else ((lenF l : Int) + 7, 0)
theorem lenF_lt (l : List Int) (h : IsB l) : lenF l < 65536 := by
  have := num_lt _ ((h.drop 1).take 2)
  have h2 : ((l.drop 1).take 2).length ≤ 2 := by rw [List.length_take]; omega
  exact Nat.lt_of_lt_of_le this (Nat.pow_le_pow_right (n := 256) (by decide) h2)
theorem get_head (l : List Int) (hl : IsB l) (h3 : 3 ≤ l.length) : ISt.get ⟨l.take 3, 0⟩ 1 = (⟨(l.take 3).drop 1, 0⟩, l.getD 0 0) ∧ ISt.get ⟨(l.take 3).drop 1, 0⟩ 2 = (⟨[], 0⟩, (lenF l : Int)) := by
  match l, h3 with
  | x0 :: x1 :: x2 :: t, _ =>
    have h0 := hl x0 (by simp)
    have e0 : num [x0] = x0.toNat := by simp [num]
    refine ⟨?_, ?_⟩
    · simp [ISt.get, ISt.raw, e0]
      omega
    · simp [ISt.get, ISt.raw, lenF]

set_option maxRecDepth 100000 in
/-- size. -/
theorem size_any (v : Value) (l : List Int) (F : Nat → Prop) (w : World) (h : BSl w F v l) :
    Calls Try.prog 85 #[v] w fun e w' => e = .returned (.tuple #[.int .i64 (sizeF l).1, .int .i64 (sizeF l).2]) ∧ Kept NoB w w' := by
  have HB := Lib.hid h
  obtain ⟨a, cap, rfl, hc, hm, hn, hr⟩ := h
  have HN := Lib.hid hn
  have HR := Lib.hid hr
  have HM := Lib.hid hm
  have hm2 : (l.length : Int) ≤ 9223372036854775807 := by unfold maxLen at hm; omega
  clear hn hr hm
  by_cases h3 : l.length < 3
  · have hp : sizeF l = (0, 3) := if_pos h3
    rw [hp]
    clear hp
    go_enter Try.func85, Try.ntmps85
    go_wp2
    go_ret2
    exact ⟨rfl, Kept.refl _ _⟩
  · have hBt := bsl_take3 hc HM.out HN.out HR.out (n := 3) (by omega)
    have HBt := Lib.hid hBt
    have HG := Lib.hid (get_head l HB.out.isB (by omega))
    have hl0 : 3 ≤ cap := by omega
    clear hBt
    go_enter Try.func85, Try.ntmps85
    go_wp2_with fail
    refine (Of_any _ (l.take 3) F _ HBt.out (by rw [List.length_take]; omega)).mono ?_
    rintro e w1 ⟨g, rfl, hg1, hg2, hi1, hk1⟩
    have HI1 := Lib.hid hi1
    have HK1 := Lib.hid hk1
    clear hi1 hk1
    go_wp2_with fail
    refine (Get_any g _ 1 _ _ HI1.out).mono ?_
    rintro e w2 ⟨rfl, hi2, hk2⟩
    rw [HG.out.1] at hi2 ⊢
    have HI2 := Lib.hid hi2
    have HK2 := Lib.hid hk2
    have hx := HB.out.isB.getD 0
    obtain ⟨x, hxe⟩ : ∃ x, x = l.getD 0 0 := ⟨_, rfl⟩
    rw [← hxe] at hx ⊢
    have HX := Lib.hid hxe
    clear hi2 hk2 hxe
    go_wp2_with fail
    refine (Get_any g _ 2 _ _ HI2.out).mono ?_
    rintro e w3 ⟨rfl, hi3, hk3⟩
    rw [HG.out.2]
    have hn := lenF_lt l HB.out.isB
    obtain ⟨n, hne⟩ : ∃ n, n = lenF l := ⟨_, rfl⟩
    rw [← hne] at hn ⊢
    have HNE := Lib.hid hne
    have hwn : IntKind.i64.wrap (n : Int) = (n : Int) := IntWalk.i64_in _ (by omega)
    have HK := Lib.hid (HK1.out.trans (HK2.out.trans hk3 (fun _ _ h => h)) (fun i hi h => by have e : i = g := h; omega))
    have HS := Lib.hid (show sizeF l = if x = 0 then (0, 4) else if 16384 < n then (0, 6) else if l.length < n + 7 then (0, 3) else ((n : Int) + 7, 0) by unfold sizeF; rw [if_neg h3, ← HX.out, ← HNE.out])
    clear hne hi3 hk3 hwn
    have hwn : IntKind.i64.wrap (n : Int) = (n : Int) := IntWalk.i64_in _ (by omega)
    by_cases hx0 : x = 0
    · have hb : (x == 0) = true := by simpa using hx0
      have HH := Lib.hid (HS.out.trans (if_pos hx0))
      clear hx0
      go_wp2
      go_ret2
      rw [HH.out]
      exact ⟨rfl, HK.out⟩
    · have hb : (x == 0) = false := by simpa using hx0
      have HH := Lib.hid (HS.out.trans (if_neg hx0))
      clear hx0 HS
      by_cases hlong : 16384 < n
      · have HS := Lib.hid (HH.out.trans (if_pos hlong))
        go_wp2
        go_ret2
        rw [HS.out]
        exact ⟨rfl, HK.out⟩
      · have HI := Lib.hid (HH.out.trans (if_neg hlong))
        clear HH
        by_cases hsh : l.length < n + 7
        · have HS := Lib.hid (HI.out.trans (if_pos hsh))
          have hsh2 : (l.length : Int) < 3 + (n : Int) + 4 := by omega
          go_wp2
          go_ret2
          rw [HS.out]
          exact ⟨rfl, HK.out⟩
        · have HS := Lib.hid (HI.out.trans (if_neg hsh))
          have hsh2 : 3 + (n : Int) + 4 ≤ (l.length : Int) := by omega
          go_wp2
          go_ret2
          rw [HS.out]
          refine ⟨?_, HK.out⟩
          show Ending.returned (.tuple #[.int .i64 (3 + (n : Int) + 4), .int .i64 0]) = Ending.returned (.tuple #[.int .i64 ((n : Int) + 7), .int .i64 0])
          rw [show 3 + (n : Int) + 4 = (n : Int) + 7 by omega]

/-- What the beginning of some bytes is: a kind, a body, how many bytes, an error. -/
structure FR where
  kind : Int
  body : List Int
  n : Int
  err : Int
def cutF (l : List Int) : FR :=
  if (sizeF l).2 ≠ 0 then ⟨0, [], 0, (sizeF l).2⟩ else if fitsB (l.take (lenF l + 7)) then ⟨l.getD 0 0, (l.drop 3).take (lenF l), (lenF l : Int) + 7, 0⟩ else ⟨0, [], 0, 5⟩
theorem sizeF_ok {l : List Int} (h : (sizeF l).2 = 0) : (sizeF l).1 = (lenF l : Int) + 7 ∧ lenF l + 7 ≤ l.length ∧ 3 ≤ l.length := by
  unfold sizeF at h ⊢
  split at h
  · exact absurd h (by show ¬ (3 : Int) = 0; decide)
  · split at h
    · exact absurd h (by show ¬ (4 : Int) = 0; decide)
    · split at h
      · exact absurd h (by show ¬ (6 : Int) = 0; decide)
      · split at h
        · exact absurd h (by show ¬ (3 : Int) = 0; decide)
        · rename_i h1 h2 h3 h4
          rw [if_neg h1, if_neg h2, if_neg h3, if_neg h4]
          exact ⟨rfl, by omega, by omega⟩
theorem sizeF_bd (l : List Int) : 0 ≤ (sizeF l).2 ∧ (sizeF l).2 < 100 := by
  unfold sizeF
  split
  · exact ⟨by show (0 : Int) ≤ 3; decide, by show (3 : Int) < 100; decide⟩
  · split
    · exact ⟨by show (0 : Int) ≤ 4; decide, by show (4 : Int) < 100; decide⟩
    · split
      · exact ⟨by show (0 : Int) ≤ 6; decide, by show (6 : Int) < 100; decide⟩
      · split
        · exact ⟨by show (0 : Int) ≤ 3; decide, by show (3 : Int) < 100; decide⟩
        · exact ⟨by show (0 : Int) ≤ 0; decide, by show (0 : Int) < 100; decide⟩

theorem body_bsl {w : World} {F : Nat → Prop} {b o cap j : Nat} {l : List Int} (h : BSl w F (.slice (some ⟨b, o, none⟩) l.length cap) l) (hj7 : 7 ≤ j) (hjl : j ≤ l.length) :
    BSl w F (.slice (some ⟨b, o + 3, none⟩) (j - 7) (j - 3)) ((l.drop 3).take (j - 7)) := by
  obtain ⟨a, cap', e, hc, hm, hn, hr⟩ := h
  simp only [Value.slice.injEq, true_and] at e
  obtain ⟨rfl, rfl⟩ := e
  refine ⟨_, j - 3, by rw [List.length_take, List.length_drop, Nat.min_eq_left (by omega)], by rw [List.length_take]; omega, by omega, (fun h => by cases h), ?_⟩
  have := (hr.drop hc (n := 3)).take (j - 7)
  rw [if_neg (by omega)] at this
  simpa [Addr.add] using this

set_option maxRecDepth 100000 in
/-- cut. -/
theorem cut_any (g t : Nat) (m : Bool) (x y : Int) (v : Value) (l : List Int) (F : Nat → Prop) (w : World) (hc : CodecAt w g t x y) (ht : TabAt w t m) (h : BSl w F v l) (hF : ¬ F t) :
    Calls Try.prog 71 #[.pointer (some ⟨g, 0, none⟩), v] w fun e w' => ∃ v', e = .returned (.tuple #[.agg #[.int .u8 (cutF l).kind, v'], .int .i64 (cutF l).n, .int .i64 (cutF l).err]) ∧ Own w' (fun k => w.heap.size ≤ k) v' (cutF l).body ∧ TabSome w' t ∧ Kept (One t) w w' := by
  have HB := Lib.hid h
  have HC := Lib.hid hc
  have HT := Lib.hid ht
  have htl := ht.lt
  have hgl := hc.lt
  obtain ⟨a, cap, rfl, hcp, hm, hn, hr⟩ := h
  have HN := Lib.hid hn
  have HR := Lib.hid hr
  have HM := Lib.hid hm
  clear hc ht hn hr
  unfold maxLen at hm
  have hb1 := sizeF_bd l
  obtain ⟨n, hn⟩ : ∃ n, n = (sizeF l).1 := ⟨_, rfl⟩
  obtain ⟨er, her⟩ : ∃ er, er = (sizeF l).2 := ⟨_, rfl⟩
  have HNN := Lib.hid hn
  have HER := Lib.hid her
  rw [← her] at hb1
  clear hn her
  by_cases he : er ≠ 0
  · have HE := Lib.hid (show cutF l = ⟨0, [], 0, er⟩ by unfold cutF; rw [← HER.out, if_pos he])
    have hb : (er != 0) = true := by simpa using he
    go_enter Try.func71, Try.ntmps71
    go_wp2_with fail
    refine (size_any _ l F _ (HB.out.kept ((Kept.refl NoB _).alloc _) (fun _ _ h => h))).mono ?_
    rintro e w1 ⟨rfl, hk1⟩
    rw [← HNN.out, ← HER.out]
    have hb1 : w1.heap[w.heap.size]? = some (.cells #[.int .u8 0, .slice none 0 0] 81 (0, 0)) := hk1.heap (fun h => h) (heap_alloc_new w _)
    have d0 : w1.cell? ⟨w.heap.size, 0, none⟩ = some (.int .u8 0) := cell_of_row w1 _ 0 _ _ _ hb1
    have d1 : w1.cell? ⟨w.heap.size, 1, none⟩ = some (.slice none 0 0) := cell_of_row w1 _ 1 _ _ _ hb1
    have e0 := blk_frozen hb1 0
    have e1 := blk_frozen hb1 1
    have hsz := heap_lt hb1
    have HK := Lib.hid (((Kept.refl NoB w).alloc _).trans hk1 (fun _ _ h => h))
    clear hb1 hk1
    go_wp2
    refine bodyPost_ret (v := .tuple #[.agg #[.int .u8 0, .slice none 0 0], .int .i64 0, .int .i64 er]) (by simp [results, Try.results71, go_sem, d0, d1]) rfl ?_
    have hk := (HK.out.new (Nat.le_refl _) 0 (.int .u8 0)).new (Nat.le_refl _) 1 (.slice none 0 0)
    rw [HE.out]
    exact ⟨_, rfl, Own.nil _ _, ⟨m, HT.out.kept hk (fun h => h)⟩, hk.mono (fun _ _ h => h.elim)⟩
  · have he0 : er = 0 := by omega
    obtain ⟨hn1, hn2, hn3⟩ := sizeF_ok (l := l) (by rw [← HER.out]; exact he0)
    rw [← HNN.out] at hn1
    have hb : (er != 0) = false := by rw [he0]; rfl
    obtain ⟨j, hj⟩ : ∃ j, j = lenF l + 7 := ⟨_, rfl⟩
    have HE := Lib.hid (show cutF l = if fitsB (l.take j) then ⟨l.getD 0 0, (l.drop 3).take (lenF l), (lenF l : Int) + 7, 0⟩ else ⟨0, [], 0, 5⟩ by unfold cutF; rw [← HER.out, if_neg he, hj])
    obtain rfl : n = (j : Int) := by omega
    have hjl : j ≤ l.length := by omega
    have hj7 : 7 ≤ j := by omega
    have hx := HB.out.isB.getD 0
    obtain ⟨z, hz⟩ : ∃ z, z = l.getD 0 0 := ⟨_, rfl⟩
    have HJ := Lib.hid hj
    have HZ := Lib.hid hz
    rw [← hz] at hx
    have HBt := Lib.hid (bsl_take3 hcp HM.out HN.out HR.out hjl)
    have hjn := lenF_lt l HB.out.isB
    have hj9 : j ≤ 70000 := by omega
    obtain ⟨b, o, rfl, hFb, hbl, hcell⟩ := HR.out.at_ (j := 0) (by omega)
    have hbt : ¬ b = t := fun h => hF (h ▸ hFb)
    rw [← hz, Nat.add_zero] at hcell
    have HCE := Lib.hid hcell
    clear he he0 hn1 hn2 hn3 hj hz hjn hcell
    go_enter Try.func71, Try.ntmps71
    go_wp2_with fail
    refine (size_any _ l F _ (HB.out.kept ((Kept.refl NoB _).alloc _) (fun _ _ h => h))).mono ?_
    rintro e w1 ⟨rfl, hk1⟩
    rw [← HNN.out, ← HER.out]
    have hb1 : w1.heap[w.heap.size]? = some (.cells #[.int .u8 0, .slice none 0 0] 81 (0, 0)) := hk1.heap (fun h => h) (heap_alloc_new w _)
    have HB1 := Lib.hid hb1
    have HK1 := Lib.hid (((Kept.refl NoB w).alloc _).trans hk1 (fun _ _ h => h))
    have hc1 := HC.out.kept HK1.out (fun h => h)
    obtain ⟨cg, _, _, _, _⟩ := hc1.cells
    clear hb1 hk1 hc1
    go_wp2_with fail
    refine (Fits_any t m _ (l.take j) F _ (HT.out.kept HK1.out (fun h => h)) (HBt.out.kept HK1.out (fun _ _ h => h)) hF (by rw [List.length_take]; omega)).mono ?_
    rintro e w2 ⟨rfl, ht2, hk2⟩
    have hb2 := hk2.heap (fun h => by have e : w.heap.size = t := h; omega) HB1.out
    have HB2 := Lib.hid hb2
    have d0 : w2.cell? ⟨w.heap.size, 0, none⟩ = some (.int .u8 0) := cell_of_row w2 _ 0 _ _ _ hb2
    have d1 : w2.cell? ⟨w.heap.size, 1, none⟩ = some (.slice none 0 0) := cell_of_row w2 _ 1 _ _ _ hb2
    have e0 := blk_frozen hb2 0
    have e1 := blk_frozen hb2 1
    have hsz := heap_lt hb2
    have HT2 := Lib.hid ht2
    have HK2 := Lib.hid (((HK1.out.mono (fun _ _ h => h.elim)).trans hk2 (fun _ _ h => h) : Kept (One t) w w2))
    clear hb2 ht2 hk2
    by_cases hfit : fitsB (l.take j) = true
    · rw [hfit]
      have HF := Lib.hid (HE.out.trans (if_pos hfit))
      clear hfit cg
      go_wp2_with fail
      obtain ⟨q, hq⟩ : ∃ q, q = j - 4 := ⟨_, rfl⟩
      have hw4 : IntKind.i64.wrap ((j : Int) - 4) = (q : Int) := by rw [IntWalk.i64_in _ (by omega)]; omega
      have hcb := HK2.out.cell (p := ⟨b, o, none⟩) hbt HCE.out
      have hbs : b ≠ w.heap.size := by omega
      have hbs2 : w.heap.size ≠ b := by omega
      have hw5 : (3 : Int) ≤ (q : Int) := by omega
      have hw6 : (q : Int) ≤ (j : Int) := by omega
      have hw7 : ¬ j = 3 := by omega
      have hw8 : 0 < j := by omega
      have hw9 : (0 : Int) < (j : Int) := by omega
      have hw10 : 3 ≤ q := by omega
      have hw11 : q ≤ j := by omega
      have HBB := Lib.hid (show BSl w2.drew F (.slice (some ⟨b, o + 3, none⟩) (q - 3) (j - 3)) ((l.drop 3).take (q - 3)) from by
        have := ((body_bsl HB.out hj7 hjl).kept HK2.out (fun k h1 h2 => by have e : k = t := h2; rw [e] at h1; exact hF h1)).kept (S := NoB) (Kept.refl _ w2).drew (fun _ _ h => h)
        rw [hq, show j - 4 - 3 = j - 7 by omega]
        exact this)
      have hq8 : ((l.drop 3).take (q - 3)).length ≤ 1000000 := by rw [List.length_take]; omega
      obtain ⟨bd, hbd⟩ : ∃ bd, bd = (l.drop 3).take (q - 3) := ⟨_, rfl⟩
      rw [← hbd] at HBB hq8
      have HBD := Lib.hid hbd
      clear hbd
      have HQ := Lib.hid hq
      clear hq
      go_region_held3 (fun w' => w'.cell? ⟨b, o, none⟩ = some (.int .u8 z))
        (first | exact hk3.cell (p := ⟨b, o, none⟩) (fun h => h) hcb | exact (World.cell?_setCell_far _ _ _ _ hbs2).trans ((World.cell?_setCell_far _ _ _ _ hbs2).trans hcb3) | go_keep)
        ((go_at_call 53; refine (Clone_own _ bd F _ HBB.out hq8).mono ?_; rintro e w3 ⟨v3, rfl, hv3, hk3⟩; obtain ⟨va, vc, rfl⟩ := own_form hv3.2.1; have hb3 := hk3.heap (fun h => h) HB2.out; have f0 := blk_frozen hb3 0; have f1 := blk_frozen hb3 1; have g0 : w3.cell? ⟨w.heap.size, 0, none⟩ = some (.int .u8 0) := cell_of_row w3 _ 0 _ _ _ hb3; have g1 : w3.cell? ⟨w.heap.size, 1, none⟩ = some (.slice none 0 0) := cell_of_row w3 _ 1 _ _ _ hb3; have HV3 := Lib.hid hv3; have HK3 := Lib.hid hk3; have hcb3 := hk3.cell (p := ⟨b, o, none⟩) (fun h => h) (cell_drew hcb); clear hb3))
      go_wp2
      refine bodyPost_ret (v := .tuple #[.agg #[.int .u8 z, .slice va bd.length vc], .int .i64 j, .int .i64 0]) (by simp [results, Try.results71, go_sem, g0, g1]) rfl ?_
      have hst : Kept (One w.heap.size) w3 ((w3.setCell ⟨w.heap.size, 0, none⟩ (.int .u8 z)).setCell ⟨w.heap.size, 1, none⟩ (.slice va bd.length vc)) := ((Kept.refl (One w.heap.size) w3).one 0 _).one 1 _
      have hk23 : Kept (One t) w w3 := (HK2.out.drew).trans HK3.out (fun _ _ h => h.elim)
      have hnt : ¬ One w.heap.size t := fun h => by have e : t = w.heap.size := h; omega
      rw [HF.out, show (lenF l : Int) + 7 = (j : Int) by have := HJ.out; omega, ← HZ.out]
      refine ⟨_, rfl, ?_, ⟨true, ((HT2.out.kept (S := NoB) (Kept.refl _ _).drew (fun h => h)).kept HK3.out (fun h => h)).kept hst hnt⟩, hk23.trans hst (fun i hi h => by have e : i = w.heap.size := h; omega)⟩
      have e7 : (l.drop 3).take (lenF l) = bd := by rw [HBD.out, HQ.out, HJ.out]; congr 1
      rw [e7]
      exact (HV3.out.kept hst (fun k h1 h2 => by have e : k = w.heap.size := h2; have h3 : w2.heap.size ≤ k := h1; omega)).mono (fun k _ h => by have h3 : w2.heap.size ≤ k := h; omega)
    · rw [Bool.not_eq_true] at hfit
      rw [hfit]
      have HF := Lib.hid (HE.out.trans (if_neg (by rw [hfit]; decide)))
      clear hfit cg
      go_wp2
      refine bodyPost_ret (v := .tuple #[.agg #[.int .u8 0, .slice none 0 0], .int .i64 0, .int .i64 5]) (by simp [results, Try.results71, go_sem, d0, d1]) rfl ?_
      rw [HF.out]
      exact ⟨_, rfl, Own.nil _ _, ⟨true, HT2.out.kept ((Kept.refl (One w.heap.size) w2).one 0 (.int .u8 0) |>.one 1 (.slice none 0 0)) (fun h => by have e : t = w.heap.size := h; omega)⟩, (HK2.out.setCell (p := ⟨w.heap.size, 0, none⟩) (.inr (Nat.le_refl _)) _).setCell (p := ⟨w.heap.size, 1, none⟩) (.inr (Nat.le_refl _)) _⟩
end Go.Proofs.Ytpcacndbagiajaa
