/-
  The walk of SessPlays.
-/
import Derived.Test.YtnmclhgljpcjcaaSesJ
namespace Go.Proofs.Ytnmclhgljpcjcaa
open Go.RowKit
set_option linter.unusedVariables false

def SpRel16 (w : World) (n : Nat) (rv iv : Value) (wr : World) : Prop := ∃ (k : Nat) (L : List Rw), k ≤ n ∧ k ≤ 40 ∧ iv = .int .i64 k ∧ TabAt wr w.heap.size L ∧ RwRd wr (fun i => w.heap.size < i) rv L ∧ Kept NoB w wr
set_option maxRecDepth 100000 in
set_option maxHeartbeats 4000000 in
theorem SessPlays_any (w : World) (v : Value) (n : Nat) (it : Nat → Rw) (s m : Int) (h : RwsAt w v n it) (hm : 0 ≤ m) : Calls Try.prog 8 #[v, .int .i64 s, .int .u64 m] w fun e w' => e = .returned (.bool true) ∧ Kept NoB w w' := by
  obtain ⟨va, vc, rfl, hn63, hit⟩ := h
  have HIT := Lib.hid hit
  have hnn : (n : Int) ≤ 9223372036854775807 := by omega
  clear hit hn63
  go_enter Try.func8, Try.ntmps8
  go_wp2_with fail
  refine (SNew_any w).mono ?_
  rintro e w1 ⟨rfl, ht, hk⟩
  have HT := Lib.hid ht
  have HK := Lib.hid hk
  clear ht hk
  go_wp2_with fail
  go_loopw [8, 9] (SpRel16 w n) (fun _ i _ => n - (RowKit.intOf i).toNat)
  case atStart => exact ⟨0, [], Nat.zero_le _, by omega, rfl, HT.out, RwRd.nil _ _, HK.out⟩
  case round =>
    obtain ⟨k, L, hk, hk40, rfl, ht, hr, hK⟩ := hrel
    have hk0 : (0 : Int) ≤ (k : Int) := by omega
    have HT := Lib.hid ht
    have HR := Lib.hid hr
    have HK := Lib.hid hK
    obtain ⟨ra, rc, rfl⟩ := hr.form
    clear ht hK hr
    by_cases hlt : k < n ∧ k < 40
    · obtain ⟨hlt, h40⟩ := hlt
      have hk1 : (k : Int) < (n : Int) := by omega
      have hk41 : (k : Int) < 40 := by omega
      obtain ⟨b, o, rfl, hb, hat⟩ := HIT.out (by omega)
      obtain ⟨hE0, hfit⟩ := hat k hlt
      obtain ⟨y, hy⟩ : ∃ y, y = it k := ⟨_, rfl⟩
      rw [← hy] at hE0 hfit
      have HE : Hid (∀ w', Kept NoB w w' → RwAt w' b (o + k * 5) y) := Lib.hid (fun w' hk => hE0.kept hk (fun h => h))
      have HFIT := Lib.hid hfit
      clear hat hy hE0 hfit
      obtain ⟨x0, x1, x2, x3, x4⟩ := y
      have hx1 : 0 ≤ x1 := HFIT.out.1
      obtain ⟨x, hx⟩ : ∃ x, x = setX L ⟨x0, x1, x2, x3, x4⟩ := ⟨_, rfl⟩
      obtain ⟨L', hL'⟩ : ∃ l, l = setL L ⟨x0, x1, x2, x3, x4⟩ := ⟨_, rfl⟩
      have HSR := Lib.hid (RSet16_any wr _ L x0 x1 x2 x3 x4 _ HR.out (by have := HT.out.few; omega) hx1)
      have HSS := Lib.hid (fun w' h => SSet_any w' w.heap.size x0 x1 x2 x3 x4 L h HFIT.out)
      rw [← hx, ← hL'] at HSR
      simp only [← hx, ← hL'] at HSS
      clear hx hL'
      obtain ⟨e0, e1, e2, e3, e4⟩ := HE.out wr HK.out
      simp only at e0 e1 e2 e3 e4
      go_wp2_with fail
      refine HSR.out.mono ?_
      rintro e w2 ⟨u, rfl, hu, hk2⟩
      have hgl := HT.out.lt
      have hs2 := hk2.size
      have HR2 := Lib.hid (hu.mono (G := fun i => w.heap.size < i ∧ i < w2.heap.size) (fun i hi h => ⟨by rcases h with h | h; exact h; omega, hi⟩))
      obtain ⟨ua, uc, rfl⟩ := hu.form
      have HK2 := Lib.hid (HK.out.trans hk2 (fun _ _ h => h))
      have HT2 := Lib.hid (HT.out.no hk2)
      clear hk2 hu e0 e1 e2 e3 e4 HSR
      obtain ⟨⟨y0, y1, y2, y3, y4⟩, hv⟩ : ∃ v, v = (atR L s).getD rw0 := ⟨_, rfl⟩
      obtain ⟨hb0, hbb⟩ : ∃ b, b = hasB L s := ⟨_, rfl⟩
      have HG := Lib.hid (SGet_any w2 w.heap.size s L HT2.out)
      rw [← hv, ← hbb, show rvv ⟨y0, y1, y2, y3, y4⟩ = .agg #[.int .i64 y0, .int .u64 y1, .int .u64 y2, .int .i64 y3, .int .u64 y4] from rfl] at HG
      clear hv hbb
      go_wp2_with fail
      refine HG.out.mono ?_
      rintro e w3 ⟨rfl, hk3⟩
      have HK3 := Lib.hid ((HK2.out.trans hk3 (fun _ _ h => h)).alloc (.cells #[.int .i64 y0, .int .u64 y1, .int .u64 y2, .int .i64 y3, .int .u64 y4] 75))
      have HT3 := Lib.hid ((HT2.out.no hk3).no ((Kept.refl NoB w3).alloc (.cells #[.int .i64 y0, .int .u64 y1, .int .u64 y2, .int .i64 y3, .int .u64 y4] 75)))
      have HR3 := Lib.hid ((HR2.out.no hk3).no ((Kept.refl NoB w3).alloc (.cells #[.int .i64 y0, .int .u64 y1, .int .u64 y2, .int .i64 y3, .int .u64 y4] 75)))
      have HB3 := Lib.hid (heap_alloc_new w3 (.cells #[.int .i64 y0, .int .u64 y1, .int .u64 y2, .int .i64 y3, .int .u64 y4] 75))
      have hs3 : w2.heap.size ≤ w3.heap.size := hk3.size
      clear hk3
      obtain ⟨W, hW⟩ : ∃ W, W = w3.alloc (.cells #[.int .i64 y0, .int .u64 y1, .int .u64 y2, .int .i64 y3, .int .u64 y4] 75) := ⟨_, rfl⟩
      have HW := Lib.hid hW
      rw [← hW] at HK3 HT3 HR3 HB3
      have HSZ : Hid (W.heap.size = w3.heap.size + 1) := Lib.hid (by rw [hW]; simp)
      clear hW
      go_upto_region 9 with fail
      rw [← HW.out]
      obtain ⟨e0, e1, e2, e3, e4⟩ := HE.out W HK3.out
      simp only at e0 e1 e2 e3 e4
      go_wp2_with fail
      refine (ours16 _ _ _ _ _ _).mono ?_
      rintro e w5 ⟨rfl, hk5⟩
      have HK5 := Lib.hid (HK3.out.trans hk5 (fun _ _ h => h))
      have HT5 := Lib.hid (HT3.out.no hk5)
      have HR5 := Lib.hid (HR3.out.no hk5)
      have HB5 := Lib.hid (hk5.heap (fun h => h) HB3.out)
      clear hk5 e0 e1 e2 e3 e4
      have hxx : (x != x) = false := by simp
      go_wp2_with fail
      refine (HSS.out w5 HT5.out).mono ?_
      rintro e w6 ⟨rfl, ht6, hk6⟩
      have HT6 := Lib.hid ht6
      have HR6 := Lib.hid (HR5.out.kept hk6 (fun i h e => by have e : i = w.heap.size := e; have := h.1; omega))
      have HK6 := Lib.hid (HK5.out.trans (T := fun k => k = w.heap.size) hk6 (fun i hi h => by have h' : i = w.heap.size := h; omega))
      have HB6 := Lib.hid (hk6.heap (fun h : w3.heap.size = w.heap.size => by omega) HB5.out)
      clear ht6 hk6 HSS
      obtain ⟨e0, e1, e2, e3, e4⟩ := HE.out w6 HK6.out
      simp only at e0 e1 e2 e3 e4
      obtain ⟨⟨z0, z1, z2, z3, z4⟩, hv⟩ : ∃ v, v = (atR L' x0).getD rw0 := ⟨_, rfl⟩
      obtain ⟨hb2, hbb⟩ : ∃ b, b = hasB L' x0 := ⟨_, rfl⟩
      have HG2 := Lib.hid (SGet_any w6 w.heap.size x0 L' HT6.out)
      have HRG := Lib.hid (fun w' h => RGet16_any w' (.slice ua L'.length uc) x0 L' (fun i => w.heap.size < i ∧ i < w2.heap.size) h)
      simp only [show (∀ l : List Rw, ∀ s, (atR l s).isSome = hasB l s) from fun _ _ => rfl] at HRG
      rw [← hv, ← hbb, show rvv ⟨z0, z1, z2, z3, z4⟩ = .agg #[.int .i64 z0, .int .u64 z1, .int .u64 z2, .int .i64 z3, .int .u64 z4] from rfl] at HG2
      simp only [← hv, ← hbb, show rvv ⟨z0, z1, z2, z3, z4⟩ = .agg #[.int .i64 z0, .int .u64 z1, .int .u64 z2, .int .i64 z3, .int .u64 z4] from rfl] at HRG
      clear hv hbb
      go_wp2_with fail
      refine HG2.out.mono ?_
      rintro e w7 ⟨rfl, hk7⟩
      have HK7 := Lib.hid (HK6.out.trans hk7 (fun _ _ h => h))
      have HT7 := Lib.hid (HT6.out.no hk7)
      have HR7 := Lib.hid (HR6.out.no hk7)
      have HB7 := Lib.hid (hk7.heap (fun h => h) HB6.out)
      clear hk7 e0 e1 e2 e3 e4
      obtain ⟨r0, r1, r2, r3, r4⟩ := cells5r (v := ⟨y0, y1, y2, y3, y4⟩) HB7.out
      have zf := blkR_frozen HB7.out
      have hK8 := (HK7.out.five16 (b := w3.heap.size) (.inr (by omega)) 0 ⟨z0, z1, z2, z3, z4⟩)
      have hF8 := five16_at HB7.out ⟨z0, z1, z2, z3, z4⟩
      have hS8 := (Kept.refl (fun i => i = w3.heap.size) w7).five16 (b := w3.heap.size) (.inl rfl) 0 ⟨z0, z1, z2, z3, z4⟩
      have hT8 := HT7.out.kept hS8 (fun h => by have h : w.heap.size = w3.heap.size := h; omega)
      have hR8 := HR7.out.kept hS8 (fun i h e => by have e : i = w3.heap.size := e; have := h.2; omega)
      obtain ⟨W8, hW8⟩ : ∃ W, W = five16 w7 w3.heap.size 0 ⟨z0, z1, z2, z3, z4⟩ := ⟨_, rfl⟩
      have HW8 := Lib.hid hW8
      rw [← hW8] at hK8 hF8 hT8 hR8
      have HK8 := Lib.hid hK8
      have HB8 := Lib.hid hF8
      have HT8 := Lib.hid hT8
      have HR8 := Lib.hid hR8
      have hz8 : W8.heap.size = w7.heap.size := by rw [hW8]; simp [five16, World.setCell]
      have HZ8 : Hid (w3.heap.size < W8.heap.size) := Lib.hid (by have := heap_lt hF8; omega)
      clear hW8 hK8 hF8 hT8 hR8 hS8 hz8
      go_upto_region 12 with fail
      have HWW : Hid (((((w7.setCell ⟨w3.heap.size, 0, none⟩ (.int .i64 z0)).setCell ⟨w3.heap.size, 1, none⟩ (.int .u64 z1)).setCell ⟨w3.heap.size, 2, none⟩ (.int .u64 z2)).setCell ⟨w3.heap.size, 3, none⟩ (.int .i64 z3)).setCell ⟨w3.heap.size, 4, none⟩ (.int .u64 z4) = W8) := Lib.hid (by rw [HW8.out]; rfl)
      rw [HWW.out]
      clear r0 r1 r2 r3 r4 zf
      obtain ⟨e0, e1, e2, e3, e4⟩ := HE.out W8 HK8.out
      simp only at e0 e1 e2 e3 e4
      go_wp2_with fail
      refine (HRG.out W8 HR8.out).mono ?_
      rintro e w9 ⟨rfl, hk9⟩
      have HK9 := Lib.hid ((HK8.out.trans hk9 (fun _ _ h => h)).alloc (.cells #[.int .i64 z0, .int .u64 z1, .int .u64 z2, .int .i64 z3, .int .u64 z4] 74))
      have HT9 := Lib.hid ((HT8.out.no hk9).no ((Kept.refl NoB w9).alloc (.cells #[.int .i64 z0, .int .u64 z1, .int .u64 z2, .int .i64 z3, .int .u64 z4] 74)))
      have HR9 := Lib.hid ((HR8.out.no hk9).no ((Kept.refl NoB w9).alloc (.cells #[.int .i64 z0, .int .u64 z1, .int .u64 z2, .int .i64 z3, .int .u64 z4] 74)))
      have HB9 := Lib.hid (blkR_alloc (hk9.heap (fun h => h) HB8.out) (.cells #[.int .i64 z0, .int .u64 z1, .int .u64 z2, .int .i64 z3, .int .u64 z4] 74))
      have HC9 := Lib.hid (heap_alloc_new w9 (.cells #[.int .i64 z0, .int .u64 z1, .int .u64 z2, .int .i64 z3, .int .u64 z4] 74))
      clear hk9 e0 e1 e2 e3 e4
      obtain ⟨W10, hW⟩ : ∃ W, W = w9.alloc (.cells #[.int .i64 z0, .int .u64 z1, .int .u64 z2, .int .i64 z3, .int .u64 z4] 74) := ⟨_, rfl⟩
      have HW10 := Lib.hid hW
      rw [← hW] at HK9 HT9 HR9 HB9 HC9
      clear hW
      go_upto_region 13 with fail
      rw [← HW10.out]
      -- the great comparison
      have HKe := Lib.hid (Kept.refl NoB W10).drew
      have HTEN : Hid (∀ w', Kept NoB W10 w' → w'.cell? ⟨w3.heap.size, 0, none⟩ = some (.int .i64 z0) ∧ w'.cell? ⟨w3.heap.size, 1, none⟩ = some (.int .u64 z1) ∧ w'.cell? ⟨w3.heap.size, 2, none⟩ = some (.int .u64 z2) ∧ w'.cell? ⟨w3.heap.size, 3, none⟩ = some (.int .i64 z3) ∧ w'.cell? ⟨w3.heap.size, 4, none⟩ = some (.int .u64 z4) ∧ w'.cell? ⟨w9.heap.size, 0, none⟩ = some (.int .i64 z0) ∧ w'.cell? ⟨w9.heap.size, 1, none⟩ = some (.int .u64 z1) ∧ w'.cell? ⟨w9.heap.size, 2, none⟩ = some (.int .u64 z2) ∧ w'.cell? ⟨w9.heap.size, 3, none⟩ = some (.int .i64 z3) ∧ w'.cell? ⟨w9.heap.size, 4, none⟩ = some (.int .u64 z4) ∧ w'.cell? ⟨b, o + k * 5, none⟩ = some (.int .i64 x0)) := Lib.hid (fun w' hk => by
        obtain ⟨b0, b1, b2, b3, b4⟩ := cells5r (v := ⟨z0, z1, z2, z3, z4⟩) (hk.heap (fun h => h) HB9.out)
        obtain ⟨c0, c1, c2, c3, c4⟩ := cells5r (v := ⟨z0, z1, z2, z3, z4⟩) (hk.heap (fun h => h) HC9.out)
        exact ⟨b0, b1, b2, b3, b4, c0, c1, c2, c3, c4, (HE.out w' (HK9.out.trans hk (fun _ _ h => h))).1⟩)
      have HTT := Lib.hid (HTEN.out _ HKe.out)
      have HLN := Lib.hid (fun w' (hk : Kept NoB W10 w') => SLen_any w' w.heap.size L' (HT9.out.no hk))
      have HAL := Lib.hid (fun w' (hk : Kept NoB W10 w') => (SAll_any w' w.heap.size L' (HT9.out.no hk)).mono (fun e w2 h => show ∃ a c, e = .returned (.slice a L'.length c) ∧ RwRd w2 (fun _ => True) (.slice a L'.length c) L' ∧ Kept NoB w' w2 from by
        obtain ⟨v, rfl, hv, hk⟩ := h
        obtain ⟨a, c, rfl⟩ := hv.form
        exact ⟨a, c, rfl, hv.rd (fun _ _ => trivial), hk⟩))
      have hfew : L'.length ≤ 6 := HT9.out.few
      have HLK := Lib.hid (fun w' (hk : Kept NoB W10 w') v (hv : RwRd w' (fun _ => True) v L') => like16 w' v (.slice ua L'.length uc) L' (fun _ => True) _ hv (HR9.out.no hk) (by omega))
      have HSJ := Lib.hid (fun s' w' (hk : Kept NoB W10 w') => SJudge_any w' w.heap.size s' m L' (HT9.out.no hk) hm)
      have HRJ := Lib.hid (fun s' w' (hk : Kept NoB W10 w') => RJudge_any w' (.slice ua L'.length uc) s' m L' _ (HR9.out.no hk) hm)
      have n0 : (z0 != z0) = false := by simp
      have n1 : (z1 != z1) = false := by simp
      have n2 : (z2 != z2) = false := by simp
      have n3 : (z3 != z3) = false := by simp
      have n4 : (z4 != z4) = false := by simp
      have n5 : (hb2 != hb2) = false := by simp
      have n6 : ((L'.length : Int) != (L'.length : Int)) = false := by simp
      have n7 : (judR L' s m != judR L' s m) = false := by simp
      have n8 : (judR L' x0 m != judR L' x0 m) = false := by simp
      clear hfew
      go_region_held3 (fun w' => w'.cell? ⟨w3.heap.size, 0, none⟩ = some (.int .i64 z0) ∧ w'.cell? ⟨w3.heap.size, 1, none⟩ = some (.int .u64 z1) ∧ w'.cell? ⟨w3.heap.size, 2, none⟩ = some (.int .u64 z2) ∧ w'.cell? ⟨w3.heap.size, 3, none⟩ = some (.int .i64 z3) ∧ w'.cell? ⟨w3.heap.size, 4, none⟩ = some (.int .u64 z4) ∧ w'.cell? ⟨w9.heap.size, 0, none⟩ = some (.int .i64 z0) ∧ w'.cell? ⟨w9.heap.size, 1, none⟩ = some (.int .u64 z1) ∧ w'.cell? ⟨w9.heap.size, 2, none⟩ = some (.int .u64 z2) ∧ w'.cell? ⟨w9.heap.size, 3, none⟩ = some (.int .i64 z3) ∧ w'.cell? ⟨w9.heap.size, 4, none⟩ = some (.int .u64 z4) ∧ w'.cell? ⟨b, o + k * 5, none⟩ = some (.int .i64 x0))
        (with_reducible exact HTT.out)
        (first
          | ((go_at_call 42; (with_reducible refine (ours16 _ _ _ _ _ _).mono ?_); rintro e w1 ⟨rfl, hk1⟩; replace HKe := Lib.hid (HKe.out.trans hk1 (fun _ _ h => h)); replace HTT := Lib.hid (HTEN.out _ HKe.out); clear hk1))
          | ((go_at_call 44; (with_reducible refine (HLN.out _ HKe.out).mono ?_); rintro e w1 ⟨rfl, hk1⟩; replace HKe := Lib.hid (HKe.out.trans hk1 (fun _ _ h => h)); replace HTT := Lib.hid (HTEN.out _ HKe.out); clear hk1))
          | ((go_at_call 46; (with_reducible refine (HAL.out _ HKe.out).mono ?_); rintro e w1 ⟨aa, ac, rfl, hav, hk1⟩; have HAV := Lib.hid hav; clear hav; replace HKe := Lib.hid (HKe.out.trans hk1 (fun _ _ h => h)); replace HTT := Lib.hid (HTEN.out _ HKe.out); clear hk1))
          | ((go_at_call 45; (with_reducible refine (HLK.out _ HKe.out _ (HAV.out.no ((Kept.refl NoB _).drewN 0))).mono ?_); rintro e w1 ⟨rfl, hk1⟩; replace HKe := Lib.hid (HKe.out.trans hk1 (fun _ _ h => h)); replace HTT := Lib.hid (HTEN.out _ HKe.out); clear hk1))
          | ((go_at_call 47; (with_reducible refine (HSJ.out _ _ HKe.out).mono ?_); rintro e w1 ⟨rfl, rfl⟩; skip))
          | ((go_at_call 48; (with_reducible refine (HRJ.out _ _ HKe.out).mono ?_); rintro e w1 ⟨rfl, hk1⟩; replace HKe := Lib.hid (HKe.out.trans hk1 (fun _ _ h => h)); replace HTT := Lib.hid (HTEN.out _ HKe.out); clear hk1)))
      all_goals
        go_wp2
        exact ⟨⟨k + 1, L', by omega, by omega, by go_num, HT9.out.no HKe.out, (HR9.out.no HKe.out).mono (fun i _ h => h.1), HK9.out.trans HKe.out (fun _ _ h => h)⟩, by simp [RowKit.intOf]; omega⟩
    · by_cases hlt2 : k < n
      · obtain rfl : k = 40 := by omega
        clear hlt
        have h1 : ((40 : Nat) : Int) < (n : Int) := by omega
        have HAW := Lib.hid (awake16 wr)
        go_wp2_with fail
        refine HAW.out.mono ?_
        rintro e w8 ⟨rfl, hk8⟩
        have HK8 := Lib.hid (HK.out.trans hk8 (fun _ _ h => h))
        clear hk8
        go_wp2
        go_ret
        exact ⟨rfl, HK8.out⟩
      · obtain rfl : k = n := by omega
        clear hlt
        have HAW := Lib.hid (awake16 wr)
        go_wp2_with fail
        refine HAW.out.mono ?_
        rintro e w8 ⟨rfl, hk8⟩
        have HK8 := Lib.hid (HK.out.trans hk8 (fun _ _ h => h))
        clear hk8
        go_wp2
        go_ret
        exact ⟨rfl, HK8.out⟩
end Go.Proofs.Ytnmclhgljpcjcaa
