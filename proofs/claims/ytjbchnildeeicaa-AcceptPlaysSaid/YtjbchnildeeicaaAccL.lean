/-
  A call of both: the acceptor's and the chapter's.
-/
import Derived.Test.YtjbchnildeeicaaAccK
import Derived.Test.YtjbchnildeeicaaAccO
import Derived.Deep.RegionHeld3
namespace Go.Proofs.Ytjbchnildeeicaa
open Go.RowKit
set_option linter.unusedVariables false

theorem oc7 {w : World} {b : Nat} {x0 x1 x2 x3 x4 x5 x6 : Value} (h : w.heap[b]? = some (.cells #[x0, x1, x2, x3, x4, x5, x6] 34 (0, 0))) :
    w.cell? ⟨b, 0, none⟩ = some x0 ∧ w.cell? ⟨b, 1, none⟩ = some x1 ∧ w.cell? ⟨b, 2, none⟩ = some x2 ∧ w.cell? ⟨b, 3, none⟩ = some x3 ∧ w.cell? ⟨b, 4, none⟩ = some x4 ∧ w.cell? ⟨b, 5, none⟩ = some x5 ∧ w.cell? ⟨b, 6, none⟩ = some x6 :=
  ⟨cell_of_row _ _ 0 _ _ _ h, cell_of_row _ _ 1 _ _ _ h, cell_of_row _ _ 2 _ _ _ h, cell_of_row _ _ 3 _ _ _ h, cell_of_row _ _ 4 _ _ _ h, cell_of_row _ _ 5 _ _ _ h, cell_of_row _ _ 6 _ _ _ h⟩
/-- Any block but the acceptor's. -/
def NG (g bm : Nat) : Nat → Prop := fun k => ¬ AB g bm k
theorem Fw.ng {g bm : Nat} {w0 w w' : World} {v : Value} {L : List Vt} (h : VRd w (Fw (NG g bm) w0) v L) (hg : g < w0.heap.size) (hb : bm < w0.heap.size) : VRd w (NG g bm) v L :=
  h.mono (fun k _ hk => hk.elim id (fun hk h => by rcases h with h | h <;> omega))
set_option maxRecDepth 100000 in
set_option maxHeartbeats 4000000 in
theorem step11 (w : World) (g bm : Nat) (p : Int) (L : List Vt) (v : Value) (kd qb qs qk qch qep qnd : Int) (h : AccAt w g bm p L) (hv : VRd w (NG g bm) v L) (hfit : OpFit ⟨kd, qb, qs, qk, qch, qep, qnd⟩) :
    Calls Try.prog 12 #[.pointer (some ⟨g, 0, none⟩), .agg #[.int .u64 p, v], .agg #[.int .i64 kd, .int .u64 qb, .int .i64 qs, .int .i64 qk, .int .i64 qch, .int .u64 qep, .int .i64 qnd]] w fun e w' =>
      ∃ p' u L', e = .returned (.tuple #[.agg #[.int .u64 p', u], .bool true]) ∧ AccAt w' g bm p' L' ∧ VRd w' (NG g bm) u L' ∧ Kept (AB g bm) w w' := by
  obtain ⟨a, c, rfl⟩ := hv.form
  obtain ⟨hb0, hb1, hs0, hs1, he0, he1⟩ := hfit
  simp only at hb0 hb1 hs0 hs1 he0 he1
  have hgl : g < w.heap.size := heap_lt h.cells
  have hbl : bm < w.heap.size := h.map.lt
  have hfew := h.few
  have HA := Lib.hid h
  have HV := Lib.hid hv
  have hr1 := heap_alloc_new w (.cells #[.int .u64 p, .slice a L.length c] 28)
  obtain ⟨w1, hw1⟩ : ∃ w1, w1 = w.alloc (.cells #[.int .u64 p, .slice a L.length c] 28) := ⟨_, rfl⟩
  have hz1 : w1.heap.size = w.heap.size + 1 := by rw [hw1]; simp
  have hk1 : Kept NoB w w1 := by rw [hw1]; exact (Kept.refl _ _).alloc _
  rw [← hw1] at hr1
  have hr2 := heap_alloc_new w1 (.cells #[.int .i64 kd, .int .u64 qb, .int .i64 qs, .int .i64 qk, .int .i64 qch, .int .u64 qep, .int .i64 qnd] 34)
  have hs2 := blkA_alloc hr1 (.cells #[.int .i64 kd, .int .u64 qb, .int .i64 qs, .int .i64 qk, .int .i64 qch, .int .u64 qep, .int .i64 qnd] 34)
  obtain ⟨w2, hw2⟩ : ∃ w2, w2 = w1.alloc (.cells #[.int .i64 kd, .int .u64 qb, .int .i64 qs, .int .i64 qk, .int .i64 qch, .int .u64 qep, .int .i64 qnd] 34) := ⟨_, rfl⟩
  have hz2 : w2.heap.size = w.heap.size + 2 := by rw [hw2]; simp [hz1]
  have hk2 : Kept NoB w w2 := by rw [hw2]; exact hk1.alloc _
  rw [← hw2] at hr2 hs2
  rw [hz1] at hr2
  have HR3 := Lib.hid (heap_alloc_new w2 (.cells #[.int .u64 0, .slice none 0 0] 28))
  have HS3 := Lib.hid (blkA_alloc hs2 (.cells #[.int .u64 0, .slice none 0 0] 28))
  have HT3 := Lib.hid (blkA_alloc hr2 (.cells #[.int .u64 0, .slice none 0 0] 28))
  obtain ⟨w3, hw3⟩ : ∃ w3, w3 = w2.alloc (.cells #[.int .u64 0, .slice none 0 0] 28) := ⟨_, rfl⟩
  have hz3 : w3.heap.size = w.heap.size + 3 := by rw [hw3]; simp [hz2]
  have hk3 : Kept NoB w w3 := by rw [hw3]; exact hk2.alloc _
  rw [← hw3] at HR3 HS3 HT3
  rw [hz2] at HR3
  have HZ := Lib.hid hz3
  have HK := Lib.hid hk3
  have HW1 := Lib.hid hw1
  have HW2 := Lib.hid hw2
  have HW3 := Lib.hid hw3
  have HA3 := Lib.hid (h.no hk3)
  have HV3 := Lib.hid (hv.no hk3)
  clear h hv hr1 hw1 hz1 hk1 hr2 hs2 hw2 hz2 hk2 hw3 hz3 hk3
  by_cases hkd : kd = 0
  · subst hkd
    obtain ⟨t0, t1, t2, t3, t4, t5, t6⟩ := oc7 HT3.out
    go_enter Try.func12, Try.ntmps12
    go_wp2_with fail
    rw [← HW1.out, ← HW2.out, ← HW3.out]
    refine (APrep_any w3 g bm p qb qs L HA3.out hb0 hb1 hs1).mono ?_
    rintro e w4 ⟨v8, rfl, hv8, ha4, hk4⟩
    have HR4 := Lib.hid (hk4.heap (by rintro (h | h) <;> omega) HR3.out)
    have HS4 := Lib.hid (hk4.heap (by rintro (h | h) <;> omega) HS3.out)
    have HT4 := Lib.hid (hk4.heap (by rintro (h | h) <;> omega) HT3.out)
    have HV4 := Lib.hid (HV3.out.kept hk4 (fun k hk h => hk h))
    have HZ4 : Hid (w.heap.size + 3 ≤ w4.heap.size) := Lib.hid (by have := hk4.size; have := HZ.out; omega)
    have HK4 : Hid (Kept (AB g bm) w w4) := Lib.hid ((HK.out.mono (fun _ _ h => h.elim)).trans hk4 (fun _ _ h => h))
    have HO4 := Lib.hid hv8
    have HA4 := Lib.hid ha4
    clear t0 t1 t2 t3 t4 t5 t6 hv8 ha4 hk4
    obtain ⟨t0, t1, t2, t3, t4, t5, t6⟩ := oc7 HT4.out
    obtain ⟨c0, c1, g0, g1⟩ := ac2 HS4.out
    go_wp2_with fail
    refine (RPrep_any w4 p qb qs _ L (NG g bm) HV4.out (by omega) hb0 hb1).mono ?_
    rintro e w5 ⟨u5, rfl, hu5, hk5⟩
    have HU5 := Lib.hid hu5
    have HK5 := Lib.hid hk5
    have HR5 := Lib.hid (hk5.heap (fun h => h) HR4.out)
    obtain ⟨P2, hP2⟩ : ∃ x, x = prepP p qb qs := ⟨_, rfl⟩
    obtain ⟨X2, hX2⟩ : ∃ x, x = prepX p qb qs := ⟨_, rfl⟩
    rw [← hP2, ← hX2]
    rw [← hP2] at HA4
    clear t0 t1 t2 t3 t4 t5 t6 c0 c1 g0 g1 hu5 hk5 hX2 hP2
    go_wp2_with fail
    obtain ⟨W, hW⟩ : ∃ W, W = w5.alloc (.cells #[.int .u64 P2, .slice a L.length c] 28) := ⟨_, rfl⟩
    have HKW : Hid (Kept NoB w5 W) := Lib.hid (by rw [hW]; exact (Kept.refl _ _).alloc _)
    have HQ := heap_alloc_new w5 (.cells #[.int .u64 P2, .slice a L.length c] 28)
    rw [← hW] at HQ ⊢
    clear hW
    obtain ⟨q0, q1, _, _⟩ := ac2 HQ
    have hn1 : ¬ w.heap.size + 1 + 1 = w5.heap.size := by have := HK5.out.size; have := HZ4.out; omega
    have hn2 : ¬ w5.heap.size = w.heap.size + 1 + 1 := fun h => hn1 h.symm
    have HSV : Hid (∀ w', Kept NoB W w' → Calls Try.prog 17 #[v8, u5] w' fun e w'' => e = .returned (.bool true) ∧ Kept NoB w' w'') :=
      Lib.hid (fun w' hk => RSameVotes_eq w' v8 u5 _ (fun _ => True) (fun _ => True) ((((HO4.out.no HK5.out).no HKW.out).no hk).rd (fun _ _ => trivial)) (((HU5.out.no HKW.out).no hk).rd (fun _ _ => trivial)))
    go_region_held3 (fun w' => w'.cell? ⟨w5.heap.size, 0, none⟩ = some (.int .u64 P2) ∧ w'.cell? ⟨w5.heap.size, 1, none⟩ = some (.slice a L.length c))
      (first
        | exact ⟨cell_drew q0, cell_drew q1⟩
        | exact ⟨HKQ.out.cell (p := ⟨w5.heap.size, 0, none⟩) (fun h => h) q0, HKQ.out.cell (p := ⟨w5.heap.size, 1, none⟩) (fun h => h) q1⟩
        | go_keep)
      ((go_at_call 17; refine (HSV.out _ ((Kept.refl NoB W).drew)).mono ?_; rintro e w6 ⟨rfl, hk6⟩; have HKQ := Lib.hid ((Kept.refl NoB W).drew.trans hk6 (fun _ _ h => h)); have HR7 := Lib.hid ((HKW.out.trans HKQ.out (fun _ _ h => h)).heap (fun h => h) HR5.out); clear hk6; obtain ⟨x0, x1, x2, x3⟩ := ac2 HR7.out))
    all_goals
      have HF := blkA_set (blkA_set HR7.out 0 (.int .u64 P2)) 1 (.slice a L.length c)
      have hk46 := (HK5.out.trans HKW.out (fun _ _ h => h)).trans HKQ.out (fun _ _ h => h)
      have HKE := ((HK4.out.trans hk46 (fun _ _ h => h.elim)).setCell (p := ⟨w.heap.size + 2, 0, none⟩) (.inr (Nat.le_add_right _ _)) (.int .u64 P2)).setCell (p := ⟨w.heap.size + 2, 1, none⟩) (.inr (Nat.le_add_right _ _)) (.slice a L.length c)
      have HKS := ((hk46.mono (T := AG (w.heap.size + 2)) (fun _ _ h => h.elim)).setCell (p := ⟨w.heap.size + 2, 0, none⟩) (.inl rfl) (.int .u64 P2)).setCell (p := ⟨w.heap.size + 2, 1, none⟩) (.inl rfl) (.slice a L.length c)
      have HAE := HA4.out.kept HKS (show ¬ g = w.heap.size + 2 by omega) (show ¬ bm = w.heap.size + 2 by omega)
      have HVE := HV.out.kept HKE (fun k hk h => hk h)
      clear HKS hk46 q0 q1 hn1 hn2
      obtain ⟨r0, r1, _, _⟩ := ac2 (x := .int .u64 P2) (y := .slice a L.length c) HF
      clear HF
      generalize hW2 : World.setCell _ _ _ = W2 at r0 r1 HKE HAE HVE ⊢
      have HKE := Lib.hid HKE
      have HAE := Lib.hid HAE
      have HVE := Lib.hid HVE
      go_wp2
      exact bodyPost_ret (v := .tuple #[.agg #[.int .u64 P2, .slice a L.length c], .bool true]) (by simp [results, Try.results12, go_sem, r0, r1]) rfl ⟨_, _, _, rfl, HAE.out, HVE.out, HKE.out⟩
  · have hkx : (kd == 0) = false := by simpa using hkd
    obtain ⟨x, hx⟩ : ∃ x, Chk qk qch qep qnd x := ⟨_, chk_is _ _ _ _⟩
    have HX := Lib.hid hx
    obtain ⟨t0, t1, t2, t3, t4, t5, t6⟩ := oc7 HT3.out
    clear hkd hx
    go_enter Try.func12, Try.ntmps12
    go_wp2_with fail
    rw [← HW1.out, ← HW2.out, ← HW3.out]
    have hvb : VRd w3 (fun k => NG g bm k ∧ k < w.heap.size) (.slice a L.length c) L := (HV.out.mono (G := fun k => NG g bm k ∧ k < w.heap.size) (fun k hk h => ⟨h, hk⟩)).no HK.out
    refine (RAcc_any w3 p qb qs qk qch qep qnd x _ L _ hvb (by omega) hb0 hb1 he0 he1 HX.out).mono ?_
    rintro e w5 ⟨u5, rfl, hu5, hk5⟩
    clear hvb
    obtain ⟨P2, hP2⟩ : ∃ y, y = accP p qb qs x := ⟨_, rfl⟩
    obtain ⟨X2, hX2⟩ : ∃ y, y = accX p qb qs x := ⟨_, rfl⟩
    obtain ⟨L2, hL2⟩ : ∃ y, y = accL p qb qs x L ⟨qs, qb, qk, qch, qep, qnd⟩ := ⟨_, rfl⟩
    rw [← hP2, ← hX2]
    rw [← hL2] at hu5
    obtain ⟨ua, uc, rfl⟩ := hu5.form
    have HU5 := Lib.hid hu5
    have HK5 := Lib.hid hk5
    have HR5 := Lib.hid (hk5.heap (fun h => h) HR3.out)
    have HT5 := Lib.hid (hk5.heap (fun h => h) HT3.out)
    have HA5 := Lib.hid (HA3.out.no hk5)
    have HXS := Lib.hid (And.intro hP2 (And.intro hX2 hL2))
    clear t0 t1 t2 t3 t4 t5 t6 hu5 hk5 hX2 hP2 hL2
    go_wp2_with fail
    obtain ⟨W, hW⟩ : ∃ W, W = w5.alloc (.cells #[.int .u64 P2, .slice ua L2.length uc] 28) := ⟨_, rfl⟩
    have HKW : Hid (Kept NoB w5 W) := Lib.hid (by rw [hW]; exact (Kept.refl _ _).alloc _)
    have HQ := heap_alloc_new w5 (.cells #[.int .u64 P2, .slice ua L2.length uc] 28)
    rw [← hW] at HQ ⊢
    clear hW
    have HQ0 := Lib.hid HQ
    obtain ⟨q0, q1, _, _⟩ := ac2 HQ
    clear HQ
    have hn1 : ¬ w.heap.size + 1 + 1 = w5.heap.size := by have := HK5.out.size; have := HZ.out; omega
    have hn2 : ¬ w5.heap.size = w.heap.size + 1 + 1 := fun h => hn1 h.symm
    have hn3 : ¬ AB g bm w5.heap.size := by have := HK5.out.size; have := HZ.out; rintro (h | h) <;> omega
    have hn4 : ¬ AB g bm (w.heap.size + 1) := by rintro (h | h) <;> omega
    have HN3 := Lib.hid hn3
    have HN4 := Lib.hid hn4
    have HAW := Lib.hid (HA5.out.no HKW.out)
    have HTW := Lib.hid (HKW.out.heap (fun h => h) HT5.out)
    have HRW := Lib.hid (HKW.out.heap (fun h => h) HR5.out)
    obtain ⟨t0, t1, t2, t3, t4, t5, t6⟩ := oc7 HTW.out
    clear hn3 hn4 t0
    go_region_held3 (fun w' => w'.cell? ⟨w5.heap.size, 0, none⟩ = some (.int .u64 P2) ∧ w'.cell? ⟨w5.heap.size, 1, none⟩ = some (.slice ua L2.length uc) ∧ w'.cell? ⟨w.heap.size + 1, 1, none⟩ = some (.int .u64 qb) ∧ w'.cell? ⟨w.heap.size + 1, 2, none⟩ = some (.int .i64 qs) ∧ w'.cell? ⟨w.heap.size + 1, 3, none⟩ = some (.int .i64 qk) ∧ w'.cell? ⟨w.heap.size + 1, 4, none⟩ = some (.int .i64 qch) ∧ w'.cell? ⟨w.heap.size + 1, 5, none⟩ = some (.int .u64 qep) ∧ w'.cell? ⟨w.heap.size + 1, 6, none⟩ = some (.int .i64 qnd))
      (first
        | exact ⟨cell_drew q0, cell_drew q1, cell_drew t1, cell_drew t2, cell_drew t3, cell_drew t4, cell_drew t5, cell_drew t6⟩
        | exact ⟨HKQ.out.cell (p := ⟨w5.heap.size, 0, none⟩) HN3.out q0, HKQ.out.cell (p := ⟨w5.heap.size, 1, none⟩) HN3.out q1, HKQ.out.cell (p := ⟨w.heap.size + 1, 1, none⟩) HN4.out t1, HKQ.out.cell (p := ⟨w.heap.size + 1, 2, none⟩) HN4.out t2, HKQ.out.cell (p := ⟨w.heap.size + 1, 3, none⟩) HN4.out t3, HKQ.out.cell (p := ⟨w.heap.size + 1, 4, none⟩) HN4.out t4, HKQ.out.cell (p := ⟨w.heap.size + 1, 5, none⟩) HN4.out t5, HKQ.out.cell (p := ⟨w.heap.size + 1, 6, none⟩) HN4.out t6⟩
        | go_keep)
      ((go_at_call 22; refine (AAcc_any _ g bm p qb qs qk qch qep qnd x L HAW.out.drew hb0 hb1 he0 he1 HX.out).mono ?_; rw [← HXS.out.1, ← HXS.out.2.1, ← HXS.out.2.2]; rintro e w6 ⟨rfl, ha6, hk6⟩; have HA6 := Lib.hid ha6; have HKQ := Lib.hid ((Kept.refl (AB g bm) W).drew.trans hk6 (fun _ _ h => h)); have HR7 := Lib.hid (HKQ.out.heap (by rintro (h | h) <;> omega) HRW.out); clear hk6 ha6; obtain ⟨x0, x1, x2, x3⟩ := ac2 HR7.out))
    all_goals
      have HF := blkA_set (blkA_set HR7.out 0 (.int .u64 P2)) 1 (.slice ua L2.length uc)
      have hk46 := (HK5.out.trans HKW.out (fun _ _ h => h)).mono (T := AB g bm) (fun _ _ h => h.elim) |>.trans HKQ.out (fun _ _ h => h)
      have HKE := (((HK.out.mono (T := AB g bm) (fun _ _ h => h.elim)).trans hk46 (fun _ _ h => h)).setCell (p := ⟨w.heap.size + 2, 0, none⟩) (.inr (Nat.le_add_right _ _)) (.int .u64 P2)).setCell (p := ⟨w.heap.size + 2, 1, none⟩) (.inr (Nat.le_add_right _ _)) (.slice ua L2.length uc)
      have HKS := ((Kept.refl (AG (w.heap.size + 2)) w6).setCell (p := ⟨w.heap.size + 2, 0, none⟩) (.inl rfl) (.int .u64 P2)).setCell (p := ⟨w.heap.size + 2, 1, none⟩) (.inl rfl) (.slice ua L2.length uc)
      have HAE := HA6.out.kept HKS (show ¬ g = w.heap.size + 2 by omega) (show ¬ bm = w.heap.size + 2 by omega)
      have HVE := (((HU5.out.no HKW.out).kept HKQ.out (fun k hk h => hk.elim (fun hk => hk.1 h) (fun hk => by have := HZ.out; rcases h with h | h <;> omega))).kept HKS (fun k hk h => by have h : k = w.heap.size + 2 := h; have := HZ.out; rcases hk with hk | hk <;> omega)).mono (G := NG g bm) (fun k _ hk => hk.elim (fun hk => hk.1) (fun hk h => by have := HZ.out; rcases h with h | h <;> omega))
      clear HKS hk46 q0 q1 hn1 hn2 t1 t2 t3 t4 t5 t6
      obtain ⟨r0, r1, _, _⟩ := ac2 (x := .int .u64 P2) (y := .slice ua L2.length uc) HF
      clear HF
      generalize hW2 : World.setCell _ _ _ = W2 at r0 r1 HKE HAE HVE ⊢
      have HKE := Lib.hid HKE
      have HAE := Lib.hid HAE
      have HVE := Lib.hid HVE
      go_wp2
      exact bodyPost_ret (v := .tuple #[.agg #[.int .u64 P2, .slice ua L2.length uc], .bool true]) (by simp [results, Try.results12, go_sem, r0, r1]) rfl ⟨_, _, _, rfl, HAE.out, HVE.out, HKE.out⟩
end Go.Proofs.Ytjbchnildeeicaa
