/-
  Layer 31: put.
-/
import Derived.Test.YtokafgleejcbgaaGreatDoorTreJ
namespace Go.Proofs.YtokafgleejcbgaaGreatDoor
open Go.RowKit
set_option linter.unusedVariables false
set_option maxRecDepth 100000

set_option maxHeartbeats 8000000 in
theorem put31_bad (w : World) (g bm : Nat) (I B : Int) (L : List It) (r : It) (k : Int) (s q : ByteArray) (o n : Int) (a : Option Addr) (c : Nat) (l : List Int) (hb : o < 0 ∨ 128 < l.length) (hl : l.length ≤ 1000000) :
    Calls Tryz.prog 19 #[.pointer (some ⟨g, 0, none⟩), callV k s q o n (.slice a l.length c)] w (PuE g bm I B L r s.data.toList o l w) := by
  obtain ⟨W, hW⟩ : ∃ W, W = (w.alloc (.cells #[.int .i64 k, .string s, .string q, .int .i64 o, .int .i64 n, (.slice a l.length c)] 24)).alloc (.cells #[.int .i64 0, .slice none 0 0, .slice none 0 0, .int .i64 0, .bool false] 29) := ⟨_, rfl⟩
  obtain ⟨HKW, HBC, HBA, HWS⟩ := callAns31 w k s q o n (.slice a l.length c) W hW
  obtain ⟨-, c1, -, c3, -, c5⟩ := cells6_31 HBC.out
  have hpu : pu31 B L r s.data.toList o l = 1 := by unfold pu31; rw [if_pos hb]
  have HPU := Lib.hid hpu
  obtain ⟨p, hp⟩ : ∃ p, p = s.data.toList := ⟨_, rfl⟩
  rw [← hp] at HPU ⊢
  obtain ⟨bA, hbA⟩ : ∃ b, b = w.heap.size + 1 := ⟨_, rfl⟩
  rw [← hbA] at HBA
  have HBE := Lib.hid hbA
  have HWQ := Lib.hid hW
  clear hpu hp hbA hW
  unfold callV
  by_cases ho : o < 0
  · have d1 : decide (o < 0) = true := decide_eq_true ho
    clear ho hb
    go_enter Tryz.func19, Tryz.ntmps19
    go_upto_region 1 with fail
    rw [← HWQ.out, ← HBE.out]
    go_wp2_with (go_at_call 13; refine (answer31_lit _ _).mono ?_; rintro e w3 ⟨rfl, hk3⟩; have HK3 := Lib.hid (HKW.out.trans hk3 (fun _ _ h => h)); have HB3 := Lib.hid (hk3.heap (fun h => h) HBA.out); clear hk3; (obtain ⟨z0, z1, z2, z3, z4⟩ := cells5_31 HB3.out); have f0 := frz31 HB3.out 0; have f1 := frz31 HB3.out 1; have f2 := frz31 HB3.out 2; have f3 := frz31 HB3.out 3; have f4 := frz31 HB3.out 4)
    obtain ⟨W4, hW4⟩ : ∃ W4, W4 = ((((w3.setCell ⟨bA, 0, none⟩ (.int .i64 1)).setCell ⟨bA, 1, none⟩ (.slice none 0 0)).setCell ⟨bA, 2, none⟩ (.slice none 0 0)).setCell ⟨bA, 3, none⟩ (.int .i64 0)).setCell ⟨bA, 4, none⟩ (.bool false) := ⟨_, rfl⟩
    obtain ⟨hb4, hk4⟩ := ansSet31 HB3.out 1 (.slice none 0 0) (.slice none 0 0) 0 false W4 hW4
    rw [← hW4]
    obtain ⟨r0, r1, r2, r3, r4⟩ := cells5_31 hb4
    have HK4 := Lib.hid hk4
    clear hW4 hb4 hk4 z0 z1 z2 z3 z4 f0 f1 f2 f3 f4
    exact bodyPost_ret (v := ansV 1) (by simp [results, ansV, Tryz.results19, go_sem, r0, r1, r2, r3, r4]) rfl (PuE.bad HPU.out (by decide) (HK3.out.trans HK4.out (fun i hi h => by have h : i = bA := h; have := HBE.out; omega)))
  · have h1 : 128 < l.length := by omega
    have d1 : decide (o < 0) = false := decide_eq_false ho
    have d2 : decide ((128 : Int) < (l.length : Int)) = true := decide_eq_true (by omega)
    clear ho hb h1
    go_enter Tryz.func19, Tryz.ntmps19
    go_upto_region 1 with fail
    rw [← HWQ.out, ← HBE.out]
    go_wp2_with (go_at_call 13; refine (answer31_lit _ _).mono ?_; rintro e w3 ⟨rfl, hk3⟩; have HK3 := Lib.hid (HKW.out.trans hk3 (fun _ _ h => h)); have HB3 := Lib.hid (hk3.heap (fun h => h) HBA.out); clear hk3; (obtain ⟨z0, z1, z2, z3, z4⟩ := cells5_31 HB3.out); have f0 := frz31 HB3.out 0; have f1 := frz31 HB3.out 1; have f2 := frz31 HB3.out 2; have f3 := frz31 HB3.out 3; have f4 := frz31 HB3.out 4)
    obtain ⟨W4, hW4⟩ : ∃ W4, W4 = ((((w3.setCell ⟨bA, 0, none⟩ (.int .i64 1)).setCell ⟨bA, 1, none⟩ (.slice none 0 0)).setCell ⟨bA, 2, none⟩ (.slice none 0 0)).setCell ⟨bA, 3, none⟩ (.int .i64 0)).setCell ⟨bA, 4, none⟩ (.bool false) := ⟨_, rfl⟩
    obtain ⟨hb4, hk4⟩ := ansSet31 HB3.out 1 (.slice none 0 0) (.slice none 0 0) 0 false W4 hW4
    rw [← hW4]
    obtain ⟨r0, r1, r2, r3, r4⟩ := cells5_31 hb4
    have HK4 := Lib.hid hk4
    clear hW4 hb4 hk4 z0 z1 z2 z3 z4 f0 f1 f2 f3 f4
    exact bodyPost_ret (v := ansV 1) (by simp [results, ansV, Tryz.results19, go_sem, r0, r1, r2, r3, r4]) rfl (PuE.bad HPU.out (by decide) (HK3.out.trans HK4.out (fun i hi h => by have h : i = bA := h; have := HBE.out; omega)))
set_option maxHeartbeats 8000000 in
theorem put31_any (w : World) (g bm : Nat) (I B : Int) (L : List It) (r : It) (k : Int) (s q : ByteArray) (o n : Int) (a : Option Addr) (c : Nat) (l : List Int) (F : Nat → Prop) (h : TrAt w g bm I B L) (hr : atT L [47] = some r) (hs : s.size ≤ 1000000) (hlg : Lng w) (hl : BSl w F (.slice a l.length c) l) (hF : ∀ k, F k → ¬ Foot31 bm L k) (hlm : l.length ≤ 1000000) :
    Calls Tryz.prog 19 #[.pointer (some ⟨g, 0, none⟩), callV k s q o n (.slice a l.length c)] w (PuE g bm I B L r s.data.toList o l w) := by
  by_cases hb : o < 0 ∨ 128 < l.length
  · exact put31_bad w g bm I B L r k s q o n a c l hb hlm
  have ho0 : 0 ≤ o := by omega
  have hl1 : l.length ≤ 128 := by omega
  obtain ⟨W, hW⟩ : ∃ W, W = (w.alloc (.cells #[.int .i64 k, .string s, .string q, .int .i64 o, .int .i64 n, (.slice a l.length c)] 24)).alloc (.cells #[.int .i64 0, .slice none 0 0, .slice none 0 0, .int .i64 0, .bool false] 29) := ⟨_, rfl⟩
  obtain ⟨HKW, HBC, HBA, HWS⟩ := callAns31 w k s q o n (.slice a l.length c) W hW
  have HFI := Lib.hid (file31_any W g bm I B L r s o (h.no HKW.out) hr hs (hlg.no HKW.out))
  have HT := Lib.hid (h.no HKW.out)
  have hc := fl31_cases L r s.data.toList o (atT_key hr).2
  have hpu : pu31 B L r s.data.toList o l = pu31 B L r s.data.toList o l := rfl
  conv at hpu => rhs; unfold pu31
  rw [if_neg hb] at hpu
  obtain ⟨p, hp⟩ : ∃ p, p = s.data.toList := ⟨_, rfl⟩
  rw [← hp] at HFI hc hpu ⊢
  obtain ⟨R, hR⟩ : ∃ R, R = fl31 L r p o := ⟨_, rfl⟩
  have HR := Lib.hid hR
  rw [← hR] at HFI hc hpu
  obtain ⟨bA, hbA⟩ : ∃ b, b = w.heap.size + 1 := ⟨_, rfl⟩
  rw [← hbA] at HBA
  have HBE := Lib.hid hbA
  have HWQ := Lib.hid hW
  have HGL := Lib.hid (heap_lt h.c)
  have HGG := Lib.hid (fun y (hy : y ∈ L) k (hG : y.G k) => (h.own y hy k hG).2)
  have HFT := Lib.hid (fun k (hf : Foot31 bm L k) => h.foot_lt hf)
  have HLD := Lib.hid (hl.kept HKW.out (fun _ _ h => h))
  have HFF := Lib.hid hF
  have d1 : decide (o < 0) = false := decide_eq_false (by omega)
  have d2 : decide ((128 : Int) < (l.length : Int)) = false := decide_eq_false (by omega)
  have g128 : (l.length : Int) ≤ 128 := by omega
  clear h hr hs hlg hp hR hb hl hF hlm hW hbA
  unfold callV
  rcases hc with ⟨h1, h2⟩ | ⟨x, hx, hd, hon, h1⟩
  · obtain ⟨R1, R2⟩ := R
    simp only at h1 h2 HFI hpu
    subst h2
    simp only at hpu
    rw [show lookV none = .pointer none from rfl] at HFI
    have HPU := Lib.hid hpu
    have H1 := Lib.hid h1
    have g1 : (R1 != 0) = true := bne_iff_ne.2 h1
    clear h1 hpu hl1
    obtain ⟨-, c1, -, c3, -, c5⟩ := cells6_31 HBC.out
    go_enter Tryz.func19, Tryz.ntmps19
    go_upto_region 1 with fail
    rw [← HWQ.out, ← HBE.out]
    go_wp2_with (first
      | (go_at_call 43; refine HFI.out.mono ?_; rintro e w2 ⟨rfl, hk⟩; have HK2 := Lib.hid hk; clear hk)
      | (go_at_call 13; refine (answer31_lit _ _).mono ?_; rintro e w3 ⟨rfl, hk3⟩; have HK3 := Lib.hid ((HKW.out.trans HK2.out (fun _ _ h => h)).trans hk3 (fun _ _ h => h)); have HB3 := Lib.hid (hk3.heap (fun h => h) (HK2.out.heap (fun h => h) HBA.out)); clear hk3; (obtain ⟨z0, z1, z2, z3, z4⟩ := cells5_31 HB3.out); have f0 := frz31 HB3.out 0; have f1 := frz31 HB3.out 1; have f2 := frz31 HB3.out 2; have f3 := frz31 HB3.out 3; have f4 := frz31 HB3.out 4))
    obtain ⟨W4, hW4⟩ : ∃ W4, W4 = ((((w3.setCell ⟨bA, 0, none⟩ (.int .i64 R1)).setCell ⟨bA, 1, none⟩ (.slice none 0 0)).setCell ⟨bA, 2, none⟩ (.slice none 0 0)).setCell ⟨bA, 3, none⟩ (.int .i64 0)).setCell ⟨bA, 4, none⟩ (.bool false) := ⟨_, rfl⟩
    obtain ⟨hb4, hk4⟩ := ansSet31 HB3.out R1 (.slice none 0 0) (.slice none 0 0) 0 false W4 hW4
    rw [← hW4]
    obtain ⟨r0, r1, r2, r3, r4⟩ := cells5_31 hb4
    have HK4 := Lib.hid hk4
    clear hW4 hb4 hk4 z0 z1 z2 z3 z4 f0 f1 f2 f3 f4
    exact bodyPost_ret (v := ansV R1) (by simp [results, ansV, Tryz.results19, go_sem, r0, r1, r2, r3, r4]) rfl (PuE.bad HPU.out H1.out (HK3.out.trans HK4.out (fun i hi h => by have h : i = bA := h; have := HBE.out; omega)))
  · subst h1
    simp only at HFI hpu
    rw [lookV_some] at HFI
    unfold itv at HFI
    have HX := Lib.hid hx
    have HD := Lib.hid hd
    have hxb := HT.out.bd x hx
    obtain ⟨on, rfl⟩ := Int.eq_ofNat_of_zero_le ho0
    have hon2 : on ≤ x.d.length := by omega
    have wE : IntKind.i64.wrap ((on : Int) + (l.length : Int)) = ((on + l.length : Nat) : Int) := by rw [IntWalk.i64_in _ (by omega)]; omega
    obtain ⟨E, hE⟩ : ∃ E, E = on + l.length := ⟨_, rfl⟩
    rw [← hE] at wE
    have HE := Lib.hid hE
    obtain ⟨N, hN⟩ : ∃ N, N = (newD x.d on l).length := ⟨_, rfl⟩
    have hNl := newD_len l hon2
    rw [← hN] at hNl
    have hmx : max (E : Int) (x.d.length : Int) = (N : Int) := by split at hNl <;> omega
    obtain ⟨-, c1, -, c3, -, c5⟩ := cells6_31 HBC.out
    clear hx hd ho0 hon
    by_cases hbig : 512 < E
    · rw [if_pos (by omega)] at hpu
      have HPU := Lib.hid hpu
      have d3 : decide ((512 : Int) < (E : Int)) = true := decide_eq_true (by omega)
      clear hpu hE hon2 hxb hbig hl1 hNl
      go_enter Tryz.func19, Tryz.ntmps19
      go_upto_region 1 with fail
      rw [← HWQ.out, ← HBE.out]
      go_wp2_with (first
        | (go_at_call 43; refine HFI.out.mono ?_; rintro e w2 ⟨rfl, hk⟩; have HK2 := Lib.hid hk; (obtain ⟨xa, xc, x0, x1, x2⟩ := ((HT.out.no hk).it x HX.out).cells); (obtain ⟨-, c1, -, c3, -, c5⟩ := cells6_31 (hk.heap (fun h => h) HBC.out)); clear hk)
        | (go_at_call 13; refine (answer31_lit _ _).mono ?_; rintro e w3 ⟨rfl, hk3⟩; have HK3 := Lib.hid ((HKW.out.trans HK2.out (fun _ _ h => h)).trans hk3 (fun _ _ h => h)); have HB3 := Lib.hid (hk3.heap (fun h => h) (HK2.out.heap (fun h => h) HBA.out)); clear hk3; (obtain ⟨z0, z1, z2, z3, z4⟩ := cells5_31 HB3.out); have f0 := frz31 HB3.out 0; have f1 := frz31 HB3.out 1; have f2 := frz31 HB3.out 2; have f3 := frz31 HB3.out 3; have f4 := frz31 HB3.out 4))
      obtain ⟨W4, hW4⟩ : ∃ W4, W4 = ((((w3.setCell ⟨bA, 0, none⟩ (.int .i64 17)).setCell ⟨bA, 1, none⟩ (.slice none 0 0)).setCell ⟨bA, 2, none⟩ (.slice none 0 0)).setCell ⟨bA, 3, none⟩ (.int .i64 0)).setCell ⟨bA, 4, none⟩ (.bool false) := ⟨_, rfl⟩
      obtain ⟨hb4, hk4⟩ := ansSet31 HB3.out 17 (.slice none 0 0) (.slice none 0 0) 0 false W4 hW4
      rw [← hW4]
      obtain ⟨r0, r1, r2, r3, r4⟩ := cells5_31 hb4
      have HK4 := Lib.hid hk4
      clear hW4 hb4 hk4 z0 z1 z2 z3 z4 f0 f1 f2 f3 f4
      exact bodyPost_ret (v := ansV 17) (by simp [results, ansV, Tryz.results19, go_sem, r0, r1, r2, r3, r4]) rfl (PuE.bad HPU.out (by decide) (HK3.out.trans HK4.out (fun i hi h => by have h : i = bA := h; have := HBE.out; omega)))
    · rw [if_neg (by omega)] at hpu
      have d3 : decide ((512 : Int) < (E : Int)) = false := decide_eq_false (by omega)
      have g3 : (E : Int) ≤ 512 := by omega
      have hN5 : N ≤ 512 := by split at hNl <;> omega
      have hNx : x.d.length ≤ N := by split at hNl <;> omega
      have hNo : on ≤ N := by omega
      rw [Int.toNat_natCast, ← hN] at hpu
      obtain ⟨D, hD⟩ : ∃ D : Int, D = (N : Int) - (x.d.length : Int) := ⟨_, rfl⟩
      have wS : IntKind.i64.wrap ((N : Int) - (x.d.length : Int)) = D := by rw [hD]; exact IntWalk.i64_in _ (by omega)
      rw [← hD] at hpu
      have HMO := Lib.hid (fun w' (hk : Kept NoB W w') => more31_any w' x D ((HT.out.no hk).it x HX.out) hxb.1 hxb.2 (by omega) (by omega))
      have hmb : 0 ≤ more31 x D + 100 ∧ more31 x D ≤ 100 := by
        have hsz : sz31 x ≤ 512 := by unfold sz31; split <;> omega
        have h1 := nd31_bd (s := (sz31 x : Int)) (by omega) (by omega)
        have h2 := nd31_bd (s := (sz31 x : Int) + D) (by omega) (by omega)
        unfold more31
        omega
      obtain ⟨mo, hmo⟩ : ∃ q, q = more31 x D := ⟨_, rfl⟩
      rw [← hmo] at HMO hpu hmb
      unfold itv at HMO
      have HHB := Lib.hid (fun w' (hk : Kept NoB W w') => hasBlocks31_any w' g bm I B L mo (HT.out.no hk) (by omega) (by omega))
      clear hmo hmb
      by_cases hbk : blkT L + mo ≤ B
      · rw [if_neg (fun h => h hbk)] at hpu
        rw [decide_eq_true hbk] at HHB
        have HPU := Lib.hid hpu
        have HNL := Lib.hid hNl
        have HN := Lib.hid hN
        have HNN := Lib.hid (show N ≤ 512 ∧ x.d.length ≤ N ∧ on ≤ N ∧ on ≤ x.d.length from ⟨hN5, hNx, hNo, hon2⟩)
        have HLL := Lib.hid hl1
        have hmk : ∀ W : World, (Instr.makeSlice 22 (.int .i64 (N : Int)) (.int .i64 (N : Int))).run Tryz.prog W = .ok (.slice (some ⟨W.heap.size, 0, none⟩) N N) (W.alloc (.cells (Array.replicate N (Value.int .u8 0)) 5)) := fun W => by
          obtain ⟨i0, hi0, hz0, hz1, hz2⟩ := info_parts info_u8_31
          have hr := run_make (P := Tryz.prog) W 22 5 i0 _ Tryz.underlying22 hi0 hz0 .i64 .i64 (N : Int) (N : Int) (by omega) (by omega) (by rw [hz2]; omega) (by omega)
          simp only [hz1, Nat.mul_one, Int.toNat_natCast] at hr
          have e : (Value.int IntKind.u8 0).cells = #[Value.int .u8 0] := rfl
          rw [e, made_zero31] at hr
          exact hr
        obtain ⟨Z, hZ⟩ : ∃ Z, Z = Array.replicate N (Value.int .u8 0) := ⟨_, rfl⟩
        rw [← hZ] at hmk
        have HZ := Lib.hid hZ
        have gN0 : (0 : Int) ≤ (N : Int) := by omega
        have gon : (0 : Int) ≤ (on : Int) := by omega
        have goN : (on : Int) ≤ (N : Int) := by omega
        clear hpu hE hon2 hxb hbig hl1 hNl hN hN5 hNx hNo hD hbk hZ
        go_enter Tryz.func19, Tryz.ntmps19
        go_upto_region 1 with fail
        rw [← HWQ.out, ← HBE.out]
        go_upto_region 12 with (first
        | (go_at_call 43; refine HFI.out.mono ?_; rintro e w2 ⟨rfl, hk⟩; have HK2 := Lib.hid hk; (obtain ⟨xa, xc, x0, x1, x2⟩ := ((HT.out.no hk).it x HX.out).cells); (obtain ⟨-, c1, -, c3, -, c5⟩ := cells6_31 (hk.heap (fun h => h) HBC.out)); clear hk)
        | (go_at_call 41; refine (HMO.out _ HK2.out).mono ?_; rintro e w9 ⟨rfl, rfl⟩)
        | (go_at_call 40; refine (HHB.out _ HK2.out).mono ?_; rintro e w5 ⟨rfl, hk⟩; have HK5 := Lib.hid (HK2.out.trans hk (fun _ _ h => h)); clear hk x0 x1 x2 c1 c3 c5; (obtain ⟨xa, xc, -, x1, -⟩ := ((HT.out.no HK5.out).it x HX.out).cells); (obtain ⟨-, -, -, c3, -, c5⟩ := cells6_31 (HK5.out.heap (fun h => h) HBC.out))))
        clear x1
        obtain ⟨xa, xc, hxc, hxs⟩ := (HT.out.no HK5.out).it x HX.out
        have x1 := cell_alloc (cell_of_row _ _ 1 _ _ _ hxc) (.cells Z 5)
        have HXC := Lib.hid hxc
        have hka := (Kept.refl NoB w5).alloc (.cells Z 5)
        obtain ⟨ZL, hZL⟩ : ∃ q, q = List.replicate N (Value.int .u8 0) := ⟨_, rfl⟩
        have HZL := Lib.hid hZL
        obtain ⟨cs1, hcs1⟩ : ∃ q, q = x.d.map (Value.int .u8) := ⟨_, rfl⟩
        obtain ⟨cs2, hcs2⟩ : ∃ q, q = l.map (Value.int .u8) := ⟨_, rfl⟩
        have HGZ : Hid ((w5.alloc (.cells Z 5)).heap[w5.heap.size]? = some (.cells ZL.toArray 5 (0, 0))) := Lib.hid (by rw [heap_alloc_new, HZ.out, hZL, List.toArray_replicate])
        have HSR1 : Hid (0 < cs1.length → ∃ ad, xa = some ad ∧ ∀ j u, cs1[j]? = some u → (w5.alloc (.cells Z 5)).cell? (ad.add j) = some u) := Lib.hid (by rw [hcs1]; exact src31 (hxs.kept hka (fun _ _ h => h)))
        have HL1 : Hid (cs1.length = Nat.min x.d.length N) := Lib.hid (by rw [hcs1, List.length_map]; exact (Nat.min_eq_left HNN.out.2.1).symm)
        have HF1 : Hid (0 + cs1.length ≤ ZL.length) := Lib.hid (by rw [hcs1, hZL, List.length_map, List.length_replicate]; have := HNN.out; omega)
        have HO1 : Hid (∀ v ∈ cs1, v.oneCell' = true) := Lib.hid (by rw [hcs1]; exact isB_one)
        have HO2 : Hid (∀ v ∈ cs2, v.oneCell' = true) := Lib.hid (by rw [hcs2]; exact isB_one)
        have HBL : Hid (Below w5.heap.size w5 (w5.alloc (.cells Z 5))) := Lib.hid ((Below.refl _ _).alloc (Nat.le_refl _) _)
        have HSZ8 : Hid ((Tryz.prog.info? 5).map (·.size) = some 1) := Lib.hid (by obtain ⟨i0, hi0, _, hz1, _⟩ := info_parts info_u8_31; rw [hi0]; show some i0.size = some 1; rw [hz1])
        have HIB := Lib.hid hxs.isB
        have HC1 := Lib.hid hcs1
        have HC2 := Lib.hid hcs2
        clear hxc hxs hka hZL hcs1 hcs2
        go_wp2_with (with_reducible refine wpList_copy_splice rfl (.tmp 66) (.tmp 70) 22 22 rfl 5 Tryz.underlying22 HSZ8.out (some ⟨w5.heap.size, 0, none⟩) xa N N x.d.length xc rfl rfl w5.heap.size 0 ZL 5 HGZ.out cs1 HL1.out (fun h => ⟨rfl, HSR1.out h⟩) HF1.out HO1.out w5.heap.size w5 HBL.out (Nat.le_refl _) ?_; intro w6 hg6 hb6; have HG6 := Lib.hid hg6.out; have HK6 : Hid (Kept NoB w5 w6) := Lib.hid ((Kept.ofBelow hb6).mono (fun i h1 h2 => absurd h1 (by omega))); clear hg6 hb6 x1 c3 c5; have x1 := cell_of_row _ _ 1 _ _ _ (HK6.out.heap (fun h => h) HXC.out); (obtain ⟨-, -, -, c3, -, c5⟩ := cells6_31 ((HK5.out.trans HK6.out (fun _ _ h => h)).heap (fun h => h) HBC.out)))
        go_frame
        obtain ⟨nb, hnb⟩ : ∃ b, b = w5.heap.size := ⟨_, rfl⟩
        rw [← hnb] at HG6 ⊢
        have HNB := Lib.hid hnb
        obtain ⟨CUR, hcur⟩ : ∃ q, q = splice ZL 0 cs1 := ⟨_, rfl⟩
        rw [← hcur] at HG6
        have HCU := Lib.hid hcur
        have HLD6 := HLD.out.kept (HK5.out.trans HK6.out (fun _ _ h => h)) (fun _ _ h => h)
        have HLB := Lib.hid HLD6.isB
        have HSR2 : Hid (0 < cs2.length → ∃ ad, a = some ad ∧ ∀ j u, cs2[j]? = some u → w6.cell? (ad.add j) = some u) := Lib.hid (by rw [HC2.out]; exact src31 HLD6)
        have hlen2 : cs2.length = l.length := by rw [HC2.out, List.length_map]
        have hnl : on + l.length ≤ N := by have := HNL.out; split at this <;> omega
        have hcl : CUR.length = N := by
          rw [hcur, HZL.out, HC1.out]
          unfold splice
          have := HNN.out
          simp
          omega
        have HL2 : Hid (cs2.length = Nat.min l.length (N - on)) := Lib.hid (by rw [hlen2]; exact (Nat.min_eq_left (by omega)).symm)
        have HF2 : Hid (on + cs2.length ≤ CUR.length) := Lib.hid (by omega)
        have HL0 : Hid (on = N → ¬ 0 < cs2.length) := Lib.hid (fun h => by omega)
        clear hnb hcur HLD6 hlen2 hnl hcl HGZ HSR1
        by_cases hoN : on = N
        · have HPZ := Lib.hid (HL0.out hoN)
          have hoN' : N = on := hoN.symm
          have HL3 : Hid (cs2.length = Nat.min l.length 0) := Lib.hid (by have := HPZ.out; rw [show Nat.min l.length 0 = 0 from Nat.min_zero _]; omega)
          have HPP : Hid (∀ {P : Prop}, 0 < cs2.length → P) := Lib.hid (fun h => absurd h HPZ.out)
          clear HL0 hoN
          subst hoN'
          go_region_law (refine step_copy_splice rfl (.tmp 75) (.tmp 77) 22 22 rfl 5 Tryz.underlying22 HSZ8.out (some ⟨nb, 0, none⟩) a 0 0 l.length c (by rfl) (by rfl) nb N CUR 5 HG6.out cs2 HL3.out (fun h => absurd h HPZ.out) HF2.out HO2.out nb _ (Below.refl _ _) (Nat.le_refl _) ?_; intro w7 hg7 hb7; have HG7 := Lib.hid hg7.out; have HK7 : Hid (Kept (fun k => nb ≤ k) w6 w7) := Lib.hid ((Kept.refl _ w6).drew.trans (Kept.ofBelow hb7) (fun _ _ h => h)); clear hg7 hb7)
          all_goals
            have HKW7 : Hid (Kept NoB W w7) := Lib.hid ((HK5.out.trans HK6.out (fun _ _ h => h)).trans HK7.out (fun i hi h => by have h : nb ≤ i := h; have := HNB.out; have := HK5.out.size; omega))
            have HBT : Hid (Bt31 w7 nb (newD x.d N l)) := Lib.hid ⟨newD_isB HIB.out HLB.out, by rw [HG7.out, HCU.out, HC1.out, HC2.out, HZL.out, splice_newD HNN.out.2.2.2 HNL.out]⟩
            clear x1 c3 c5
            obtain ⟨xa, xc, hxc, hxs⟩ := (HT.out.no HKW7.out).it x HX.out
            have x1 := cell_of_row _ _ 1 _ _ _ hxc
            have fx := frz31 hxc 1
            have HA7 := Lib.hid (HKW7.out.heap (fun h => h) HBA.out)
            obtain ⟨z0, z1, z2, z3, z4⟩ := cells5_31 HA7.out
            have f0 := frz31 HA7.out 0
            have f1 := frz31 HA7.out 1
            have f2 := frz31 HA7.out 2
            have f3 := frz31 HA7.out 3
            have f4 := frz31 HA7.out 4
            have hne : bA ≠ x.b := fun e => by have := HFT.out x.b (.inr ⟨x, HX.out, rfl⟩); have := HBE.out; omega
            have hne' : x.b ≠ bA := fun e => hne e.symm
            have HNE := Lib.hid hne
            clear hxc hxs
            go_wp2_with fail
            obtain ⟨w8, hw8⟩ : ∃ w8, w8 = w7.setCell ⟨x.b, 1, none⟩ (.slice (some ⟨nb, 0, none⟩) N N) := ⟨_, rfl⟩
            have hk8 : Kept (fun k => k = x.b) w7 w8 := by rw [hw8]; exact (Kept.refl (fun k => k = x.b) w7).setCell (p := ⟨x.b, 1, none⟩) (.inl rfl) _
            have HB8 := Lib.hid (hk8.heap (fun h => HNE.out h) HA7.out)
            have htd := (HT.out.no HKW7.out).data HX.out (by rw [← HN.out]; exact HNN.out.1) HBT.out (fun hf => by have := HFT.out _ hf; have := HNB.out; have := HK5.out.size; have := HKW.out.size; omega)
            rw [← HN.out] at htd
            rw [← hw8] at htd
            rw [← hw8]
            have HTD := Lib.hid htd
            have HK8 := Lib.hid hk8
            clear hw8 hk8 htd x1 fx
            obtain ⟨W4, hW4⟩ : ∃ W4, W4 = ((((w8.setCell ⟨bA, 0, none⟩ (.int .i64 0)).setCell ⟨bA, 1, none⟩ (.slice none 0 0)).setCell ⟨bA, 2, none⟩ (.slice none 0 0)).setCell ⟨bA, 3, none⟩ (.int .i64 0)).setCell ⟨bA, 4, none⟩ (.bool false) := ⟨_, rfl⟩
            obtain ⟨hb4, hk4⟩ := ansSet31 HB8.out 0 (.slice none 0 0) (.slice none 0 0) 0 false W4 hW4
            rw [← hW4]
            obtain ⟨r0, r1, r2, r3, r4⟩ := cells5_31 hb4
            have HK4 := Lib.hid hk4
            clear hW4 hb4 hk4 z0 z1 z2 z3 z4 f0 f1 f2 f3 f4
            refine bodyPost_ret (v := ansV 0) (by simp [results, ansV, Tryz.results19, go_sem, r0, r1, r2, r3, r4]) rfl ⟨by rw [HPU.out], fun h => absurd HPU.out h, fun _ => ⟨x, HX.out, nb, by have := HNB.out; have := HK5.out.size; have := HKW.out.size; omega, by rw [← HR.out], ?_, ?_⟩⟩
            · refine HTD.out.kept HK4.out (fun i hi hor hb => ?_)
              have hb : i = bA := hb
              have hbe := HBE.out
              rcases hor with rfl | hf | ⟨y, hy, hG⟩
              · have := heap_lt (HT.out.c); have := HGL.out; omega
              · have := HFT.out _ (setD_foot hf); omega
              · obtain ⟨y', hy', rfl⟩ := setD_mem hy
                unfold set31 at hG
                split at hG
                · have hG : i = nb := hG
                  have := HNB.out
                  have := HK5.out.size
                  have := HWS.out
                  omega
                · have := HGG.out y' hy' i hG
                  omega
            · exact (((HKW.out.trans HKW7.out (fun _ _ h => h)).mono (fun _ _ h => h.elim)).trans HK8.out (fun i hi h => .inr ⟨x, HX.out, h⟩)).trans HK4.out (fun i hi h => by have h : i = bA := h; have := HBE.out; omega)
        · have hoN2 : ¬ N = on := fun e => hoN e.symm
          go_region_law (refine step_copy_splice rfl (.tmp 75) (.tmp 77) 22 22 rfl 5 Tryz.underlying22 HSZ8.out (some ⟨nb, on, none⟩) a (N - on) (N - on) l.length c (by rfl) (by rfl) nb on CUR 5 HG6.out cs2 HL2.out (fun h => ⟨rfl, HSR2.out h⟩) HF2.out HO2.out nb _ (Below.refl _ _) (Nat.le_refl _) ?_; intro w7 hg7 hb7; have HG7 := Lib.hid hg7.out; have HK7 : Hid (Kept (fun k => nb ≤ k) w6 w7) := Lib.hid ((Kept.refl _ w6).drew.trans (Kept.ofBelow hb7) (fun _ _ h => h)); clear hg7 hb7)
          all_goals
            have HKW7 : Hid (Kept NoB W w7) := Lib.hid ((HK5.out.trans HK6.out (fun _ _ h => h)).trans HK7.out (fun i hi h => by have h : nb ≤ i := h; have := HNB.out; have := HK5.out.size; omega))
            have HBT : Hid (Bt31 w7 nb (newD x.d on l)) := Lib.hid ⟨newD_isB HIB.out HLB.out, by rw [HG7.out, HCU.out, HC1.out, HC2.out, HZL.out, splice_newD HNN.out.2.2.2 HNL.out]⟩
            clear x1 c3 c5
            obtain ⟨xa, xc, hxc, hxs⟩ := (HT.out.no HKW7.out).it x HX.out
            have x1 := cell_of_row _ _ 1 _ _ _ hxc
            have fx := frz31 hxc 1
            have HA7 := Lib.hid (HKW7.out.heap (fun h => h) HBA.out)
            obtain ⟨z0, z1, z2, z3, z4⟩ := cells5_31 HA7.out
            have f0 := frz31 HA7.out 0
            have f1 := frz31 HA7.out 1
            have f2 := frz31 HA7.out 2
            have f3 := frz31 HA7.out 3
            have f4 := frz31 HA7.out 4
            have hne : bA ≠ x.b := fun e => by have := HFT.out x.b (.inr ⟨x, HX.out, rfl⟩); have := HBE.out; omega
            have hne' : x.b ≠ bA := fun e => hne e.symm
            have HNE := Lib.hid hne
            clear hxc hxs
            go_wp2_with fail
            obtain ⟨w8, hw8⟩ : ∃ w8, w8 = w7.setCell ⟨x.b, 1, none⟩ (.slice (some ⟨nb, 0, none⟩) N N) := ⟨_, rfl⟩
            have hk8 : Kept (fun k => k = x.b) w7 w8 := by rw [hw8]; exact (Kept.refl (fun k => k = x.b) w7).setCell (p := ⟨x.b, 1, none⟩) (.inl rfl) _
            have HB8 := Lib.hid (hk8.heap (fun h => HNE.out h) HA7.out)
            have htd := (HT.out.no HKW7.out).data HX.out (by rw [← HN.out]; exact HNN.out.1) HBT.out (fun hf => by have := HFT.out _ hf; have := HNB.out; have := HK5.out.size; have := HKW.out.size; omega)
            rw [← HN.out] at htd
            rw [← hw8] at htd
            rw [← hw8]
            have HTD := Lib.hid htd
            have HK8 := Lib.hid hk8
            clear hw8 hk8 htd x1 fx
            obtain ⟨W4, hW4⟩ : ∃ W4, W4 = ((((w8.setCell ⟨bA, 0, none⟩ (.int .i64 0)).setCell ⟨bA, 1, none⟩ (.slice none 0 0)).setCell ⟨bA, 2, none⟩ (.slice none 0 0)).setCell ⟨bA, 3, none⟩ (.int .i64 0)).setCell ⟨bA, 4, none⟩ (.bool false) := ⟨_, rfl⟩
            obtain ⟨hb4, hk4⟩ := ansSet31 HB8.out 0 (.slice none 0 0) (.slice none 0 0) 0 false W4 hW4
            rw [← hW4]
            obtain ⟨r0, r1, r2, r3, r4⟩ := cells5_31 hb4
            have HK4 := Lib.hid hk4
            clear hW4 hb4 hk4 z0 z1 z2 z3 z4 f0 f1 f2 f3 f4
            refine bodyPost_ret (v := ansV 0) (by simp [results, ansV, Tryz.results19, go_sem, r0, r1, r2, r3, r4]) rfl ⟨by rw [HPU.out], fun h => absurd HPU.out h, fun _ => ⟨x, HX.out, nb, by have := HNB.out; have := HK5.out.size; have := HKW.out.size; omega, by rw [← HR.out], ?_, ?_⟩⟩
            · refine HTD.out.kept HK4.out (fun i hi hor hb => ?_)
              have hb : i = bA := hb
              have hbe := HBE.out
              rcases hor with rfl | hf | ⟨y, hy, hG⟩
              · have := heap_lt (HT.out.c); have := HGL.out; omega
              · have := HFT.out _ (setD_foot hf); omega
              · obtain ⟨y', hy', rfl⟩ := setD_mem hy
                unfold set31 at hG
                split at hG
                · have hG : i = nb := hG
                  have := HNB.out
                  have := HK5.out.size
                  have := HWS.out
                  omega
                · have := HGG.out y' hy' i hG
                  omega
            · exact (((HKW.out.trans HKW7.out (fun _ _ h => h)).mono (fun _ _ h => h.elim)).trans HK8.out (fun i hi h => .inr ⟨x, HX.out, h⟩)).trans HK4.out (fun i hi h => by have h : i = bA := h; have := HBE.out; omega)
      · rw [if_pos hbk] at hpu
        rw [decide_eq_false hbk] at HHB
        have HPU := Lib.hid hpu
        clear hpu hE hon2 hxb hbig hl1 hNl hN hN5 hNx hNo hD hbk
        go_enter Tryz.func19, Tryz.ntmps19
        go_upto_region 1 with fail
        rw [← HWQ.out, ← HBE.out]
        go_wp2_with (first
        | (go_at_call 43; refine HFI.out.mono ?_; rintro e w2 ⟨rfl, hk⟩; have HK2 := Lib.hid hk; (obtain ⟨xa, xc, x0, x1, x2⟩ := ((HT.out.no hk).it x HX.out).cells); (obtain ⟨-, c1, -, c3, -, c5⟩ := cells6_31 (hk.heap (fun h => h) HBC.out)); clear hk)
        | (go_at_call 41; refine (HMO.out _ HK2.out).mono ?_; rintro e w9 ⟨rfl, rfl⟩)
        | (go_at_call 40; refine (HHB.out _ HK2.out).mono ?_; rintro e w5 ⟨rfl, hk⟩; have HK5 := Lib.hid (HK2.out.trans hk (fun _ _ h => h)); clear hk x0 x1 x2 c1 c3 c5; (obtain ⟨xa, xc, -, x1, -⟩ := ((HT.out.no HK5.out).it x HX.out).cells); (obtain ⟨-, -, -, c3, -, c5⟩ := cells6_31 (HK5.out.heap (fun h => h) HBC.out)))
        | (go_at_call 13; refine (answer31_lit _ _).mono ?_; rintro e w3 ⟨rfl, hk3⟩; have HK3 := Lib.hid ((HKW.out.trans HK5.out (fun _ _ h => h)).trans hk3 (fun _ _ h => h)); have HB3 := Lib.hid (hk3.heap (fun h => h) (HK5.out.heap (fun h => h) HBA.out)); clear hk3; (obtain ⟨z0, z1, z2, z3, z4⟩ := cells5_31 HB3.out); have f0 := frz31 HB3.out 0; have f1 := frz31 HB3.out 1; have f2 := frz31 HB3.out 2; have f3 := frz31 HB3.out 3; have f4 := frz31 HB3.out 4))
        obtain ⟨W4, hW4⟩ : ∃ W4, W4 = ((((w3.setCell ⟨bA, 0, none⟩ (.int .i64 16)).setCell ⟨bA, 1, none⟩ (.slice none 0 0)).setCell ⟨bA, 2, none⟩ (.slice none 0 0)).setCell ⟨bA, 3, none⟩ (.int .i64 0)).setCell ⟨bA, 4, none⟩ (.bool false) := ⟨_, rfl⟩
        obtain ⟨hb4, hk4⟩ := ansSet31 HB3.out 16 (.slice none 0 0) (.slice none 0 0) 0 false W4 hW4
        rw [← hW4]
        obtain ⟨r0, r1, r2, r3, r4⟩ := cells5_31 hb4
        have HK4 := Lib.hid hk4
        clear hW4 hb4 hk4 z0 z1 z2 z3 z4 f0 f1 f2 f3 f4
        exact bodyPost_ret (v := ansV 16) (by simp [results, ansV, Tryz.results19, go_sem, r0, r1, r2, r3, r4]) rfl (PuE.bad HPU.out (by decide) (HK3.out.trans HK4.out (fun i hi h => by have h : i = bA := h; have := HBE.out; omega)))
end Go.Proofs.YtokafgleejcbgaaGreatDoor
