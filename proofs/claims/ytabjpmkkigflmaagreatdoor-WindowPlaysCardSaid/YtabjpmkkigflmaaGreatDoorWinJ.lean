/-
  A window of a call's own; the example; no window; the walk of WindowNil.
-/
import Derived.Test.YtabjpmkkigflmaaGreatDoorWinI
namespace Go.Proofs.YtabjpmkkigflmaaGreatDoor
open Go.RowKit
set_option linter.unusedVariables false
set_option linter.unusedSimpArgs false

/-- A window that a call has made, whose blocks are S, all of them newer than w0. -/
structure WSt (w0 wr : World) (S : Nat → Prop) (b : Nat) (x : Wn) : Prop where
  at_ : WinAt wr S b x
  low : ∀ k, S k → w0.heap.size ≤ k
  ok : WnOk x
  nm : Norm x
  kept : Kept NoB w0 wr
theorem WSt.no {w0 w w' : World} {S : Nat → Prop} {b : Nat} {x : Wn} (h : WSt w0 w S b x) (hk : Kept NoB w w') : WSt w0 w' S b x := ⟨h.at_.no hk, h.low, h.ok, h.nm, h.kept.trans hk (fun _ _ h => h)⟩
theorem WSt.bound {w0 w : World} {S : Nat → Prop} {b : Nat} {x : Wn} (h : WSt w0 w S b x) : ∀ k, S k → k < w.heap.size := by
  obtain ⟨_, _, H⟩ := h.at_
  exact H.bound
theorem wst_new (w0 w : World) (a : Nat) (ha : a ≤ 9223372036854775807) (hk : Kept NoB w0 w) : Calls Tryz.prog 15 #[.int .u64 a] w fun e w' => e = .returned (pw w.heap.size) ∧ WSt w0 w' (fun k => k = w.heap.size) w.heap.size (newW a) ∧ Kept NoB w w' :=
  (WNew_any w a ha).mono fun e w' ⟨h1, h2, h3⟩ => ⟨h1, ⟨h2, fun k h => by rw [h]; exact hk.size, newW_ok a ha, (by show min a (a - 32) ≤ a; omega), hk.trans h3 (fun _ _ h => h)⟩, h3⟩
theorem norm_addN {x : Wn} (h : Norm x) (u : Up) : Norm (addN x u) := by
  unfold addN
  split
  · exact norm_forget _
  · exact h
theorem addN_ok {x : Wn} (h : WnOk x) {u : Up} (hf : FitU u) (hroom : x.l.length < 5000) (htop : x.en + 1 ≤ 9223372036854775807) : WnOk (addN x u) := by
  unfold addN
  split
  · rename_i hh
    exact addW_ok h (by rw [hh.2]; omega) hf (by have := (chkU_ok hh.1).1; omega) htop hroom
  · exact h
theorem wst_add (w0 w : World) (S : Nat → Prop) (b : Nat) (x : Wn) (H : WSt w0 w S b x) (v : Value) (u : Up) (G : Nat → Prop) (hu : UpV w G v u) (hG : ∀ k, G k → k < w.heap.size) (hf : FitU u) (ht : Tab10 w0) (hroom : x.l.length < 5000) (htop : x.en + 1 ≤ 9223372036854775807) :
    Calls Tryz.prog 19 #[pw b, v] w fun e w' => e = .returned (.int .i64 (addC x u)) ∧ ∃ S', WSt w0 w' S' b (addN x u) ∧ (∀ k, S' k → S k ∨ w.heap.size ≤ k) ∧ Kept S w w' :=
  (WAdd_any w S b x H.at_ H.ok v u G hu hG hf (ht.kept H.kept (fun h => h)) hroom htop).mono fun e w' ⟨h1, S', h2, h3, h4⟩ =>
    ⟨h1, S', ⟨h2, fun k hk => by rcases h3 k hk with h | h; exact H.low k h; exact Nat.le_trans H.kept.size h, addN_ok H.ok hf hroom htop, norm_addN H.nm u, H.kept.trans h4 (fun i hi h => by have := H.low i h; omega)⟩, h3, h4⟩
theorem wst_reach (w0 w : World) (S : Nat → Prop) (b : Nat) (x : Wn) (H : WSt w0 w S b x) (d : Nat) : Calls Tryz.prog 22 #[pw b, .int .u64 d] w fun e w' => ∃ a c, e = .returned (.slice a (outW x d).length c) ∧ UsAt w' (fun k => w.heap.size ≤ k) (.slice a (outW x d).length c) (outW x d) ∧ WSt w0 w' S b (reachW x d) ∧ Kept S w w' :=
  (WReach_any w S b x H.at_ H.ok H.nm d).mono fun e w' ⟨a, c, h1, h2, h3, h4⟩ => ⟨a, c, h1, h2, ⟨h3, H.low, reachW_ok H.ok d, norm_forget _, H.kept.trans h4 (fun i hi h => by have := H.low i h; omega)⟩, h4⟩
/-- One plain update. -/
def oneU (q : Int) : Up := ⟨q, 1, 1, 2, 0, 0, []⟩
theorem oneU_fit {q : Int} (h0 : 0 ≤ q) (h1 : q ≤ 18446744073709551615) : FitU (oneU q) := ⟨h0, h1, (show (0 : Int) ≤ 1 by decide), (show (1 : Int) ≤ 18446744073709551615 by decide), (show (0 : Int) ≤ 0 by decide), (show (0 : Int) ≤ 4294967295 by decide), (show (0 : Int) ≤ 0 by decide), (show (0 : Int) ≤ 18446744073709551615 by decide)⟩
theorem oneU_chk {q : Int} (h : 1 ≤ q) : chkU areUs (oneU q) = 0 := by
  unfold chkU
  rw [if_neg (by simp [oneU]), if_neg (by simp [oneU]), if_pos]
  unfold areUs isUp
  simp [oneU]
  exact h
theorem oneU_add (x : Wn) : addC x (oneU ((x.en : Int) + 1)) = 0 ∧ addN x (oneU ((x.en : Int) + 1)) = addW x (oneU ((x.en : Int) + 1)) := by
  have hc := oneU_chk (q := (x.en : Int) + 1) (by omega)
  refine ⟨?_, ?_⟩
  · unfold addC
    rw [if_pos hc, if_pos (by rfl)]
  · unfold addN
    rw [if_pos ⟨hc, by rfl⟩]
set_option maxRecDepth 100000 in
theorem one20_any (w : World) (q : Int) : Calls Tryz.prog 18 #[.int .u64 q] w fun e w' => e = .returned (.agg #[.int .u64 q, .int .i64 1, .int .u64 1, .int .i64 2, .int .u32 0, .int .u64 0, .slice none 0 0]) ∧ Kept NoB w w' := by
  have HK := Lib.hid ((Kept.refl NoB w).alloc (.cells #[.int .u64 q, .int .i64 1, .int .u64 1, .int .i64 2, .int .u32 0, .int .u64 0, .slice none 0 0] 34))
  go_enter Tryz.func18, Tryz.ntmps18
  go_wp2
  exact bodyPost_ret (v := .agg #[.int .u64 q, .int .i64 1, .int .u64 1, .int .i64 2, .int .u32 0, .int .u64 0, .slice none 0 0]) (by simp [results, Tryz.results18, go_sem]) rfl ⟨rfl, HK.out⟩
theorem one_upv (w : World) (q : Int) : UpV w NoB (.agg #[.int .u64 q, .int .i64 1, .int .u64 1, .int .i64 2, .int .u32 0, .int .u64 0, .slice none 0 0]) (oneU q) := ⟨_, rfl, BSl.nil _ _⟩
theorem WAdd_nil (w : World) (v : Value) (u : Up) (G : Nat → Prop) (hu : UpV w G v u) : Calls Tryz.prog 19 #[.pointer none, v] w fun e w' => e = .returned (.int .i64 2) ∧ Kept NoB w w' := by
  obtain ⟨va, rfl, hd⟩ := hu
  obtain ⟨vad, vc, rfl, _⟩ := hd
  have HK := Lib.hid ((Kept.refl NoB w).alloc (.cells #[.int .u64 u.q, .int .i64 u.c, .int .u64 u.n, .int .i64 u.k, .int .u32 u.key, .int .u64 u.r, .slice vad u.d.length vc] 34))
  obtain ⟨y0, y1, y2, y3, y4, y5, y6⟩ := u
  simp only at HK ⊢
  go_enter Tryz.func19, Tryz.ntmps19
  go_wp2
  go_ret
  exact ⟨rfl, HK.out⟩
theorem WReach_nil (w : World) (n : Int) : Calls Tryz.prog 22 #[.pointer none, .int .u64 n] w fun e w' => e = .returned (.slice none 0 0) ∧ w = w' := by
  go_enter Tryz.func22, Tryz.ntmps22
  go_wp2
  go_ret
  exact ⟨rfl, rfl⟩
theorem WFrom_nil (w : World) (n m : Int) : Calls Tryz.prog 23 #[.pointer none, .int .u64 n, .int .i64 m] w fun e w' => e = .returned (.tuple #[.slice none 0 0, .bool false]) ∧ w = w' := by
  go_enter Tryz.func23, Tryz.ntmps23
  go_wp2
  exact bodyPost_ret (v := .tuple #[.slice none 0 0, .bool false]) (by simp [results, Tryz.results23, go_sem]) rfl ⟨rfl, rfl⟩
/-- The example's windows. -/
def ex20a : Wn := ⟨5, 6, 5, [oneU 6]⟩
def ex20b : Wn := ⟨5, 7, 5, [oneU 6, oneU 7]⟩
theorem ex20_1 : addC (newW 5) (oneU 6) = 0 ∧ addN (newW 5) (oneU 6) = ex20a := ⟨(oneU_add (newW 5)).1, (oneU_add (newW 5)).2⟩
theorem ex20_2 : addC ex20a (oneU 7) = 0 ∧ addN ex20a (oneU 7) = ex20b := ⟨(oneU_add ex20a).1, (oneU_add ex20a).2⟩
theorem ex20_3 : outW ex20b 6 = [oneU 6] ∧ reachW ex20b 6 = ⟨5, 7, 6, [oneU 6, oneU 7]⟩ := ⟨rfl, rfl⟩
set_option maxRecDepth 100000 in
set_option maxHeartbeats 1000000 in
theorem awake20 (w : World) (ht : Tab10 w) : Calls Tryz.prog 14 #[] w fun e w' => e = .returned (.bool true) ∧ Kept NoB w w' := by
  have HT := Lib.hid ht
  have HN := Lib.hid (wst_new w w 5 (by decide) (Kept.refl _ _))
  have HO := Lib.hid one20_any
  clear ht
  go_enter Tryz.func14, Tryz.ntmps14
  go_wp2_with fail
  refine HN.out.mono ?_
  rintro e w1 ⟨rfl, hw1, _⟩
  have HW1 := Lib.hid hw1
  obtain ⟨b, hb⟩ : ∃ b, b = w.heap.size := ⟨_, rfl⟩
  rw [← hb] at HW1 ⊢
  clear hw1 hb
  go_wp2_with fail
  refine (HO.out _ _).mono ?_
  rintro e w2 ⟨rfl, hk2⟩
  have HA := Lib.hid (wst_add w w2 _ b _ (HW1.out.no hk2) _ (oneU 6) NoB (one_upv w2 6) (fun _ h => absurd h (fun h => h)) (oneU_fit (by decide) (by decide)) HT.out (by decide) (by decide))
  rw [ex20_1.1, ex20_1.2] at HA
  clear hk2
  go_wp2_with fail
  refine HA.out.mono ?_
  rintro e w3 ⟨rfl, S3, hw3, _, _⟩
  have HW3 := Lib.hid hw3
  clear hw3
  go_wp2_with fail
  refine (HO.out _ _).mono ?_
  rintro e w4 ⟨rfl, hk4⟩
  have HA4 := Lib.hid (wst_add w w4 _ b _ (HW3.out.no hk4) _ (oneU 7) NoB (one_upv w4 7) (fun _ h => absurd h (fun h => h)) (oneU_fit (by decide) (by decide)) HT.out (by decide) (by decide))
  rw [ex20_2.1, ex20_2.2] at HA4
  clear hk4
  go_wp2_with fail
  refine HA4.out.mono ?_
  rintro e w5 ⟨rfl, S5, hw5, _, _⟩
  have HR := Lib.hid (wst_reach w w5 _ b _ hw5 6)
  rw [ex20_3.1, ex20_3.2] at HR
  clear hw5
  go_wp2_with fail
  refine HR.out.mono ?_
  rintro e w6 ⟨a, c, rfl, hu, hw6, _⟩
  have HW6 := Lib.hid hw6
  have HD := Lib.hid (WDirty_any w6 S5 b _ hw6.at_ hw6.ok)
  have hc := hu.len.2.1
  obtain ⟨r, o, rfl, _, _, q, e0, _⟩ := hu.at_ (j := 0) (by decide)
  rw [Nat.zero_mul, Nat.add_zero] at e0
  have e0' : w6.cell? ⟨r, o, none⟩ = some (.int .u64 6) := e0
  clear hw6 hu e0
  go_wp2_with fail
  refine HD.out.mono ?_
  rintro e w7 ⟨rfl, hk7⟩
  have HK7 := Lib.hid (HW6.out.kept.trans hk7 (fun _ _ h => h))
  clear hk7
  go_wp2
  go_ret
  exact ⟨rfl, HK7.out⟩
set_option maxRecDepth 100000 in
set_option maxHeartbeats 1000000 in
theorem WindowNil_any (w : World) (v : Value) (u : Up) (n m : Int) (G : Nat → Prop) (hu : UpV w G v u) (ht : Tab10 w) : Calls Tryz.prog 5 #[v, .int .u64 n, .int .i64 m] w fun e w' => e = .returned (.bool true) ∧ Kept NoB w w' := by
  have H1 := Lib.hid (fun w' (hk : Kept NoB w w') => WAdd_nil w' v u G (hu.no hk))
  have H9 := Lib.hid (fun w' (hk : Kept NoB w w') => awake20 w' (ht.kept hk (fun h => h)))
  obtain ⟨va, rfl, hd⟩ := hu
  obtain ⟨vad, vc, rfl, _⟩ := hd
  obtain ⟨y0, y1, y2, y3, y4, y5, y6⟩ := u
  simp only at H1 ⊢
  obtain ⟨V, hV⟩ : ∃ V, V = w.alloc (.cells #[.int .u64 y0, .int .i64 y1, .int .u64 y2, .int .i64 y3, .int .u32 y4, .int .u64 y5, .slice vad y6.length vc] 34) := ⟨_, rfl⟩
  have HB : Hid (V.heap[w.heap.size]? = some (.cells #[.int .u64 y0, .int .i64 y1, .int .u64 y2, .int .i64 y3, .int .u32 y4, .int .u64 y5, .slice vad y6.length vc] 34 (0, 0))) := Lib.hid (by rw [hV]; exact heap_alloc_new w _)
  have HKV : Hid (Kept NoB w V) := Lib.hid (by rw [hV]; exact (Kept.refl _ _).alloc _)
  have HV := Lib.hid hV
  clear hV ht
  obtain ⟨d0, d1, d2, d3, d4, d5, d6⟩ := cells7 HB.out
  go_enter Tryz.func5, Tryz.ntmps5
  go_wp2_with fail
  rw [← HV.out]
  refine (WFrom_nil _ _ _).mono ?_
  rintro e w1 ⟨rfl, rfl⟩
  go_wp2_with fail
  refine (H1.out _ HKV.out).mono ?_
  rintro e w1 ⟨rfl, hk1⟩
  have HK1 := Lib.hid (HKV.out.trans hk1 (fun _ _ h => h))
  clear hk1
  go_wp2_with fail
  refine (WReach_nil _ _).mono ?_
  rintro e w2 ⟨rfl, rfl⟩
  go_wp2_with fail
  refine (WLow_nil _).mono ?_
  rintro e w2 ⟨rfl, rfl⟩
  go_wp2_with fail
  refine (WEnd_nil _).mono ?_
  rintro e w2 ⟨rfl, rfl⟩
  go_wp2_with fail
  refine (WDone_nil _).mono ?_
  rintro e w2 ⟨rfl, rfl⟩
  go_wp2_with fail
  refine (WDirty_nil _).mono ?_
  rintro e w2 ⟨rfl, hk2⟩
  have HK2 := Lib.hid (HK1.out.trans hk2 (fun _ _ h => h))
  clear hk2
  go_wp2_with fail
  refine (WRoom_nil _).mono ?_
  rintro e w3 ⟨rfl, hk3⟩
  have HK3 := Lib.hid (HK2.out.trans hk3 (fun _ _ h => h))
  clear hk3
  go_wp2_with fail
  refine (WHeld_nil _).mono ?_
  rintro e w4 ⟨rfl, rfl⟩
  go_wp2_with fail
  refine (H9.out _ HK3.out).mono ?_
  rintro e w4 ⟨rfl, hk4⟩
  have HK4 := Lib.hid (HK3.out.trans hk4 (fun _ _ h => h))
  clear hk4
  go_wp2
  go_ret
  exact ⟨rfl, HK4.out⟩
end Go.Proofs.YtabjpmkkigflmaaGreatDoor
