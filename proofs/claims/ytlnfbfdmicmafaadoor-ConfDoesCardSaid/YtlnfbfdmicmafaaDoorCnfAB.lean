/-
  The chapter's Can.
-/
import Derived.Test.YtlnfbfdmicmafaaDoorCnfY
import Derived.Test.YtlnfbfdmicmafaaDoorCnfAA
namespace Go.Proofs.YtlnfbfdmicmafaaDoor
open Go.RowKit
set_option linter.unusedVariables false

theorem RAll_yes (v : Value) (l : List Cf) (F : Nat → Prop) (w : World) (h : CfsAt w F v l) (hl : l.length ≤ 1000) (hA : AllC l) : Calls Tryd.prog 12 #[v] w (BoolE true w) := by
  have := RAll_any v l F w h hl
  rwa [show allB l = true from decide_eq_true hA] at this
theorem RAll_no (v : Value) (l : List Cf) (F : Nat → Prop) (w : World) (h : CfsAt w F v l) (hl : l.length ≤ 1000) (hA : ¬ AllC l) : Calls Tryd.prog 12 #[v] w (BoolE false w) := by
  have := RAll_any v l F w h hl
  rwa [show allB l = false from decide_eq_false hA] at this
set_option maxRecDepth 100000 in
set_option maxHeartbeats 4000000 in
theorem RCan_1 (v : Value) (l : List Cf) (ch : Nat) (ep nd : Int) (F : Nat → Prop) (w : World) (h : CfsAt w F v l) (hlen : l.length ≤ 1000) (hA : AllC l) (hx : Chk 1 ch ep nd 0) (hep : 0 ≤ ep) (hch : ch < l.length) (he : ep = (nthC l ch).ep) :
    Calls Tryd.prog 25 #[v, .agg #[.int .i64 1, .int .i64 ch, .int .u64 ep, .int .i64 nd]] w (IntE (endE (canK l (nthC l ch) 1 nd) ep) w) := by
  obtain ⟨a, cap, rfl, _⟩ := id h
  have hl : l.length ≤ 9223372036854775807 := by omega
  have HA : Hid (∀ w', Kept NoB w w' → _) := Lib.hid (fun w' (hk : Kept NoB w w') => RAll_yes _ l F w' (h.kept hk (fun _ _ _ h => h)) hlen hA)
  have HX : Hid (∀ w, Calls Tryd.prog 60 #[.agg #[.int .i64 1, .int .i64 ch, .int .u64 ep, .int .i64 nd]] w fun e w' => e = .returned (.int .i64 0) ∧ Kept NoB w w') :=
    Lib.hid (fun w => (RCheck_any 1 ch ep nd w hep).mono (by rintro e w' ⟨y, hy, rfl, hk⟩; exact ⟨by rw [hy.one hx], hk⟩))
  have H := Lib.hid h
  obtain ⟨b, o, rfl, _, _, u, e0, e1, e2, e3, e4, hns, hbd⟩ := h.at_ hch
  obtain ⟨ua, uc, rfl, _⟩ := id hns
  have hcv := cf_eta _ _ _ _ hns hbd
  have hn1 : 1 ≤ (nthC l ch).ns.length := (hA.2.2 ch hch).1.2.2.2.1
  have hn5 : (nthC l ch).ns.length ≤ 5 := (hA.2.2 ch hch).1.2.2.2.2.1
  have HC : Hid (∀ w', Kept NoB w w' → _) := Lib.hid (fun w' (hk : Kept NoB w w') => rcan_1 (.slice (some ⟨b, o, none⟩) l.length cap) _ l (nthC l ch) ch ep nd F F w' (h.kept hk (fun _ _ _ h => h)) (hcv.kept hk (fun _ _ _ h => h)) hn1 hn5)
  obtain ⟨r, hr⟩ : ∃ r, r = endE (canK l (nthC l ch) 1 nd) ep := ⟨_, rfl⟩
  rw [← he, ← hr] at HC
  rw [← hr]
  obtain ⟨c, hc⟩ : ∃ c, c = nthC l ch := ⟨_, rfl⟩
  rw [← hc] at e0 e1 e2 e3 e4 he HC
  obtain ⟨cch, cep, ns, fr, jn⟩ := c
  simp only at e0 e1 e2 e3 e4 he HC
  subst he
  have hk1 : (ch : Int) < (l.length : Int) := by omega
  have hk0 : (0 : Int) ≤ (ch : Int) := by omega
  have hge : decide ((l.length : Int) ≤ (ch : Int)) = false := decide_eq_false (by omega)
  have HB := Lib.hid (heap_alloc_new w (.cells #[.int .i64 1, .int .i64 (ch : Int), .int .u64 ep, .int .i64 nd] 42))
  have HK := Lib.hid ((Kept.refl NoB w).alloc (.cells #[.int .i64 1, .int .i64 (ch : Int), .int .u64 ep, .int .i64 nd] 42))
  clear hA hx h hcv hns hbd hr hc hn1 hn5 hch hep
  have E := Lib.hid (And.intro e0 (And.intro e1 (And.intro e2 (And.intro e3 e4))))
  clear e0 e1 e2 e3 e4
  go_enter Tryd.func25, Tryd.ntmps25
  go_wp2_with fail
  refine (HA.out _ HK.out).mono ?_
  rintro e w1 ⟨rfl, hk⟩
  have HK1 := Lib.hid (HK.out.trans hk (fun _ _ h => h))
  have HB1 := Lib.hid (hk.heap (fun h => h) HB.out)
  obtain ⟨c0, c1, c2, c3⟩ := cells4c HB1.out
  clear hk
  go_wp2_with fail
  refine (HX.out _).mono ?_
  rintro e w2 ⟨rfl, hk⟩
  have HK2 := Lib.hid (HK1.out.trans hk (fun _ _ h => h))
  have HB2 := Lib.hid (hk.heap (fun h => h) HB1.out)
  clear hk c0 c1 c2 c3
  obtain ⟨c0, c1, c2, c3⟩ := cells4c HB2.out
  obtain ⟨g0, g1, g2, g3, g4⟩ := E.out
  have e0 := HK2.out.cell (p := ⟨b, o + ch * 5, none⟩) (fun h => h) g0
  have e1 := HK2.out.cell (p := ⟨b, o + ch * 5 + 1, none⟩) (fun h => h) g1
  have e2 := HK2.out.cell (p := ⟨b, o + ch * 5 + 2, none⟩) (fun h => h) g2
  have e3 := HK2.out.cell (p := ⟨b, o + ch * 5 + 3, none⟩) (fun h => h) g3
  have e4 := HK2.out.cell (p := ⟨b, o + ch * 5 + 4, none⟩) (fun h => h) g4
  clear g0 g1 g2 g3 g4
  go_wp2_with fail
  go_quiet (fail)
  go_wp2_with fail
  have HK3 := Lib.hid (HK2.out.drewN nq)
  obtain ⟨W, hW⟩ : ∃ W, W = w2.drewN nq := ⟨_, rfl⟩
  have hWk : Kept NoB w2 W := by rw [hW]; exact (Kept.refl _ _).drewN _
  rw [← hW] at HK3 ⊢
  have c0 := hWk.cell (p := ⟨w.heap.size, 0, none⟩) (fun h => h) c0
  have c1 := hWk.cell (p := ⟨w.heap.size, 1, none⟩) (fun h => h) c1
  have c2 := hWk.cell (p := ⟨w.heap.size, 2, none⟩) (fun h => h) c2
  have c3 := hWk.cell (p := ⟨w.heap.size, 3, none⟩) (fun h => h) c3
  have e0 := hWk.cell (p := ⟨b, o + ch * 5, none⟩) (fun h => h) e0
  have e1 := hWk.cell (p := ⟨b, o + ch * 5 + 1, none⟩) (fun h => h) e1
  have e2 := hWk.cell (p := ⟨b, o + ch * 5 + 2, none⟩) (fun h => h) e2
  have e3 := hWk.cell (p := ⟨b, o + ch * 5 + 3, none⟩) (fun h => h) e3
  have e4 := hWk.cell (p := ⟨b, o + ch * 5 + 4, none⟩) (fun h => h) e4
  clear hW hWk
  have HKc := Lib.hid (Kept.refl NoB W)
  go_region_held3 (fun w' => w'.cell? ⟨w.heap.size, 0, none⟩ = some (.int .i64 1) ∧ w'.cell? ⟨w.heap.size, 1, none⟩ = some (.int .i64 (ch : Int)) ∧ w'.cell? ⟨w.heap.size, 2, none⟩ = some (.int .u64 ep) ∧ w'.cell? ⟨w.heap.size, 3, none⟩ = some (.int .i64 nd) ∧ w'.cell? ⟨b, o + ch * 5, none⟩ = some (.int .i64 cch) ∧ w'.cell? ⟨b, o + ch * 5 + 1, none⟩ = some (.int .u64 ep) ∧ w'.cell? ⟨b, o + ch * 5 + 2, none⟩ = some (.slice ua ns.length uc) ∧ w'.cell? ⟨b, o + ch * 5 + 3, none⟩ = some (.bool fr) ∧ w'.cell? ⟨b, o + ch * 5 + 4, none⟩ = some (.int .i64 jn))
    (first
      | exact ⟨cell_drew c0, cell_drew c1, cell_drew c2, cell_drew c3, cell_drew e0, cell_drew e1, cell_drew e2, cell_drew e3, cell_drew e4⟩
      | exact ⟨HKc.out.cell (p := ⟨w.heap.size, 0, none⟩) (fun h => h) c0, HKc.out.cell (p := ⟨w.heap.size, 1, none⟩) (fun h => h) c1, HKc.out.cell (p := ⟨w.heap.size, 2, none⟩) (fun h => h) c2, HKc.out.cell (p := ⟨w.heap.size, 3, none⟩) (fun h => h) c3, HKc.out.cell (p := ⟨b, o + ch * 5, none⟩) (fun h => h) e0, HKc.out.cell (p := ⟨b, o + ch * 5 + 1, none⟩) (fun h => h) e1, HKc.out.cell (p := ⟨b, o + ch * 5 + 2, none⟩) (fun h => h) e2, HKc.out.cell (p := ⟨b, o + ch * 5 + 3, none⟩) (fun h => h) e3, HKc.out.cell (p := ⟨b, o + ch * 5 + 4, none⟩) (fun h => h) e4⟩
      | go_keep)
    ((go_at_call 61; refine (HC.out _ HK3.out.drew).mono ?_; rintro e w5 ⟨rfl, hk5⟩; replace HKc := Lib.hid (HKc.out.drew.trans hk5 (fun _ _ h => h)); clear hk5))
  all_goals
    have HKF := Lib.hid (HK3.out.trans HKc.out (fun _ _ h => h))
    clear c0 c1 c2 c3 e0 e1 e2 e3 e4
    go_wp2
    go_ret
    exact ⟨rfl, HKF.out⟩
set_option maxRecDepth 100000 in
set_option maxHeartbeats 4000000 in
theorem RCan_2 (v : Value) (l : List Cf) (ch : Nat) (ep nd : Int) (F : Nat → Prop) (w : World) (h : CfsAt w F v l) (hlen : l.length ≤ 1000) (hA : AllC l) (hx : Chk 2 ch ep nd 0) (hep : 0 ≤ ep) (hch : ch < l.length) (he : ep = (nthC l ch).ep) :
    Calls Tryd.prog 25 #[v, .agg #[.int .i64 2, .int .i64 ch, .int .u64 ep, .int .i64 nd]] w (IntE (endE (canK l (nthC l ch) 2 nd) ep) w) := by
  obtain ⟨a, cap, rfl, _⟩ := id h
  have hl : l.length ≤ 9223372036854775807 := by omega
  have HA : Hid (∀ w', Kept NoB w w' → _) := Lib.hid (fun w' (hk : Kept NoB w w') => RAll_yes _ l F w' (h.kept hk (fun _ _ _ h => h)) hlen hA)
  have HX : Hid (∀ w, Calls Tryd.prog 60 #[.agg #[.int .i64 2, .int .i64 ch, .int .u64 ep, .int .i64 nd]] w fun e w' => e = .returned (.int .i64 0) ∧ Kept NoB w w') :=
    Lib.hid (fun w => (RCheck_any 2 ch ep nd w hep).mono (by rintro e w' ⟨y, hy, rfl, hk⟩; exact ⟨by rw [hy.one hx], hk⟩))
  have H := Lib.hid h
  obtain ⟨b, o, rfl, _, _, u, e0, e1, e2, e3, e4, hns, hbd⟩ := h.at_ hch
  obtain ⟨ua, uc, rfl, _⟩ := id hns
  have hcv := cf_eta _ _ _ _ hns hbd
  have hn1 : 1 ≤ (nthC l ch).ns.length := (hA.2.2 ch hch).1.2.2.2.1
  have hn5 : (nthC l ch).ns.length ≤ 5 := (hA.2.2 ch hch).1.2.2.2.2.1
  have HC : Hid (∀ w', Kept NoB w w' → _) := Lib.hid (fun w' (hk : Kept NoB w w') => rcan_2 (.slice (some ⟨b, o, none⟩) l.length cap) _ l (nthC l ch) ch ep nd F F w' (h.kept hk (fun _ _ _ h => h)) (hcv.kept hk (fun _ _ _ h => h)) hn1 hn5)
  obtain ⟨r, hr⟩ : ∃ r, r = endE (canK l (nthC l ch) 2 nd) ep := ⟨_, rfl⟩
  rw [← he, ← hr] at HC
  rw [← hr]
  obtain ⟨c, hc⟩ : ∃ c, c = nthC l ch := ⟨_, rfl⟩
  rw [← hc] at e0 e1 e2 e3 e4 he HC
  obtain ⟨cch, cep, ns, fr, jn⟩ := c
  simp only at e0 e1 e2 e3 e4 he HC
  subst he
  have hk1 : (ch : Int) < (l.length : Int) := by omega
  have hk0 : (0 : Int) ≤ (ch : Int) := by omega
  have hge : decide ((l.length : Int) ≤ (ch : Int)) = false := decide_eq_false (by omega)
  have HB := Lib.hid (heap_alloc_new w (.cells #[.int .i64 2, .int .i64 (ch : Int), .int .u64 ep, .int .i64 nd] 42))
  have HK := Lib.hid ((Kept.refl NoB w).alloc (.cells #[.int .i64 2, .int .i64 (ch : Int), .int .u64 ep, .int .i64 nd] 42))
  clear hA hx h hcv hns hbd hr hc hn1 hn5 hch hep
  have E := Lib.hid (And.intro e0 (And.intro e1 (And.intro e2 (And.intro e3 e4))))
  clear e0 e1 e2 e3 e4
  go_enter Tryd.func25, Tryd.ntmps25
  go_wp2_with fail
  refine (HA.out _ HK.out).mono ?_
  rintro e w1 ⟨rfl, hk⟩
  have HK1 := Lib.hid (HK.out.trans hk (fun _ _ h => h))
  have HB1 := Lib.hid (hk.heap (fun h => h) HB.out)
  obtain ⟨c0, c1, c2, c3⟩ := cells4c HB1.out
  clear hk
  go_wp2_with fail
  refine (HX.out _).mono ?_
  rintro e w2 ⟨rfl, hk⟩
  have HK2 := Lib.hid (HK1.out.trans hk (fun _ _ h => h))
  have HB2 := Lib.hid (hk.heap (fun h => h) HB1.out)
  clear hk c0 c1 c2 c3
  obtain ⟨c0, c1, c2, c3⟩ := cells4c HB2.out
  obtain ⟨g0, g1, g2, g3, g4⟩ := E.out
  have e0 := HK2.out.cell (p := ⟨b, o + ch * 5, none⟩) (fun h => h) g0
  have e1 := HK2.out.cell (p := ⟨b, o + ch * 5 + 1, none⟩) (fun h => h) g1
  have e2 := HK2.out.cell (p := ⟨b, o + ch * 5 + 2, none⟩) (fun h => h) g2
  have e3 := HK2.out.cell (p := ⟨b, o + ch * 5 + 3, none⟩) (fun h => h) g3
  have e4 := HK2.out.cell (p := ⟨b, o + ch * 5 + 4, none⟩) (fun h => h) g4
  clear g0 g1 g2 g3 g4
  go_wp2_with fail
  go_quiet (fail)
  go_wp2_with fail
  have HK3 := Lib.hid (HK2.out.drewN nq)
  obtain ⟨W, hW⟩ : ∃ W, W = w2.drewN nq := ⟨_, rfl⟩
  have hWk : Kept NoB w2 W := by rw [hW]; exact (Kept.refl _ _).drewN _
  rw [← hW] at HK3 ⊢
  have c0 := hWk.cell (p := ⟨w.heap.size, 0, none⟩) (fun h => h) c0
  have c1 := hWk.cell (p := ⟨w.heap.size, 1, none⟩) (fun h => h) c1
  have c2 := hWk.cell (p := ⟨w.heap.size, 2, none⟩) (fun h => h) c2
  have c3 := hWk.cell (p := ⟨w.heap.size, 3, none⟩) (fun h => h) c3
  have e0 := hWk.cell (p := ⟨b, o + ch * 5, none⟩) (fun h => h) e0
  have e1 := hWk.cell (p := ⟨b, o + ch * 5 + 1, none⟩) (fun h => h) e1
  have e2 := hWk.cell (p := ⟨b, o + ch * 5 + 2, none⟩) (fun h => h) e2
  have e3 := hWk.cell (p := ⟨b, o + ch * 5 + 3, none⟩) (fun h => h) e3
  have e4 := hWk.cell (p := ⟨b, o + ch * 5 + 4, none⟩) (fun h => h) e4
  clear hW hWk
  have HKc := Lib.hid (Kept.refl NoB W)
  go_region_held3 (fun w' => w'.cell? ⟨w.heap.size, 0, none⟩ = some (.int .i64 2) ∧ w'.cell? ⟨w.heap.size, 1, none⟩ = some (.int .i64 (ch : Int)) ∧ w'.cell? ⟨w.heap.size, 2, none⟩ = some (.int .u64 ep) ∧ w'.cell? ⟨w.heap.size, 3, none⟩ = some (.int .i64 nd) ∧ w'.cell? ⟨b, o + ch * 5, none⟩ = some (.int .i64 cch) ∧ w'.cell? ⟨b, o + ch * 5 + 1, none⟩ = some (.int .u64 ep) ∧ w'.cell? ⟨b, o + ch * 5 + 2, none⟩ = some (.slice ua ns.length uc) ∧ w'.cell? ⟨b, o + ch * 5 + 3, none⟩ = some (.bool fr) ∧ w'.cell? ⟨b, o + ch * 5 + 4, none⟩ = some (.int .i64 jn))
    (first
      | exact ⟨cell_drew c0, cell_drew c1, cell_drew c2, cell_drew c3, cell_drew e0, cell_drew e1, cell_drew e2, cell_drew e3, cell_drew e4⟩
      | exact ⟨HKc.out.cell (p := ⟨w.heap.size, 0, none⟩) (fun h => h) c0, HKc.out.cell (p := ⟨w.heap.size, 1, none⟩) (fun h => h) c1, HKc.out.cell (p := ⟨w.heap.size, 2, none⟩) (fun h => h) c2, HKc.out.cell (p := ⟨w.heap.size, 3, none⟩) (fun h => h) c3, HKc.out.cell (p := ⟨b, o + ch * 5, none⟩) (fun h => h) e0, HKc.out.cell (p := ⟨b, o + ch * 5 + 1, none⟩) (fun h => h) e1, HKc.out.cell (p := ⟨b, o + ch * 5 + 2, none⟩) (fun h => h) e2, HKc.out.cell (p := ⟨b, o + ch * 5 + 3, none⟩) (fun h => h) e3, HKc.out.cell (p := ⟨b, o + ch * 5 + 4, none⟩) (fun h => h) e4⟩
      | go_keep)
    ((go_at_call 61; refine (HC.out _ HK3.out.drew).mono ?_; rintro e w5 ⟨rfl, hk5⟩; replace HKc := Lib.hid (HKc.out.drew.trans hk5 (fun _ _ h => h)); clear hk5))
  all_goals
    have HKF := Lib.hid (HK3.out.trans HKc.out (fun _ _ h => h))
    clear c0 c1 c2 c3 e0 e1 e2 e3 e4
    go_wp2
    go_ret
    exact ⟨rfl, HKF.out⟩
set_option maxRecDepth 100000 in
set_option maxHeartbeats 4000000 in
theorem RCan_3 (v : Value) (l : List Cf) (ch : Nat) (ep nd : Int) (F : Nat → Prop) (w : World) (h : CfsAt w F v l) (hlen : l.length ≤ 1000) (hA : AllC l) (hx : Chk 3 ch ep nd 0) (hep : 0 ≤ ep) (hch : ch < l.length) (he : ep = (nthC l ch).ep) :
    Calls Tryd.prog 25 #[v, .agg #[.int .i64 3, .int .i64 ch, .int .u64 ep, .int .i64 nd]] w (IntE (endE (canK l (nthC l ch) 3 nd) ep) w) := by
  obtain ⟨a, cap, rfl, _⟩ := id h
  have hl : l.length ≤ 9223372036854775807 := by omega
  have HA : Hid (∀ w', Kept NoB w w' → _) := Lib.hid (fun w' (hk : Kept NoB w w') => RAll_yes _ l F w' (h.kept hk (fun _ _ _ h => h)) hlen hA)
  have HX : Hid (∀ w, Calls Tryd.prog 60 #[.agg #[.int .i64 3, .int .i64 ch, .int .u64 ep, .int .i64 nd]] w fun e w' => e = .returned (.int .i64 0) ∧ Kept NoB w w') :=
    Lib.hid (fun w => (RCheck_any 3 ch ep nd w hep).mono (by rintro e w' ⟨y, hy, rfl, hk⟩; exact ⟨by rw [hy.one hx], hk⟩))
  have H := Lib.hid h
  obtain ⟨b, o, rfl, _, _, u, e0, e1, e2, e3, e4, hns, hbd⟩ := h.at_ hch
  obtain ⟨ua, uc, rfl, _⟩ := id hns
  have hcv := cf_eta _ _ _ _ hns hbd
  have hn1 : 1 ≤ (nthC l ch).ns.length := (hA.2.2 ch hch).1.2.2.2.1
  have hn5 : (nthC l ch).ns.length ≤ 5 := (hA.2.2 ch hch).1.2.2.2.2.1
  have HC : Hid (∀ w', Kept NoB w w' → _) := Lib.hid (fun w' (hk : Kept NoB w w') => rcan_3 (.slice (some ⟨b, o, none⟩) l.length cap) _ l (nthC l ch) ch ep nd F F w' (h.kept hk (fun _ _ _ h => h)) (hcv.kept hk (fun _ _ _ h => h)) hn1 hn5)
  obtain ⟨r, hr⟩ : ∃ r, r = endE (canK l (nthC l ch) 3 nd) ep := ⟨_, rfl⟩
  rw [← he, ← hr] at HC
  rw [← hr]
  obtain ⟨c, hc⟩ : ∃ c, c = nthC l ch := ⟨_, rfl⟩
  rw [← hc] at e0 e1 e2 e3 e4 he HC
  obtain ⟨cch, cep, ns, fr, jn⟩ := c
  simp only at e0 e1 e2 e3 e4 he HC
  subst he
  have hk1 : (ch : Int) < (l.length : Int) := by omega
  have hk0 : (0 : Int) ≤ (ch : Int) := by omega
  have hge : decide ((l.length : Int) ≤ (ch : Int)) = false := decide_eq_false (by omega)
  have HB := Lib.hid (heap_alloc_new w (.cells #[.int .i64 3, .int .i64 (ch : Int), .int .u64 ep, .int .i64 nd] 42))
  have HK := Lib.hid ((Kept.refl NoB w).alloc (.cells #[.int .i64 3, .int .i64 (ch : Int), .int .u64 ep, .int .i64 nd] 42))
  clear hA hx h hcv hns hbd hr hc hn1 hn5 hch hep
  have E := Lib.hid (And.intro e0 (And.intro e1 (And.intro e2 (And.intro e3 e4))))
  clear e0 e1 e2 e3 e4
  go_enter Tryd.func25, Tryd.ntmps25
  go_wp2_with fail
  refine (HA.out _ HK.out).mono ?_
  rintro e w1 ⟨rfl, hk⟩
  have HK1 := Lib.hid (HK.out.trans hk (fun _ _ h => h))
  have HB1 := Lib.hid (hk.heap (fun h => h) HB.out)
  obtain ⟨c0, c1, c2, c3⟩ := cells4c HB1.out
  clear hk
  go_wp2_with fail
  refine (HX.out _).mono ?_
  rintro e w2 ⟨rfl, hk⟩
  have HK2 := Lib.hid (HK1.out.trans hk (fun _ _ h => h))
  have HB2 := Lib.hid (hk.heap (fun h => h) HB1.out)
  clear hk c0 c1 c2 c3
  obtain ⟨c0, c1, c2, c3⟩ := cells4c HB2.out
  obtain ⟨g0, g1, g2, g3, g4⟩ := E.out
  have e0 := HK2.out.cell (p := ⟨b, o + ch * 5, none⟩) (fun h => h) g0
  have e1 := HK2.out.cell (p := ⟨b, o + ch * 5 + 1, none⟩) (fun h => h) g1
  have e2 := HK2.out.cell (p := ⟨b, o + ch * 5 + 2, none⟩) (fun h => h) g2
  have e3 := HK2.out.cell (p := ⟨b, o + ch * 5 + 3, none⟩) (fun h => h) g3
  have e4 := HK2.out.cell (p := ⟨b, o + ch * 5 + 4, none⟩) (fun h => h) g4
  clear g0 g1 g2 g3 g4
  go_wp2_with fail
  go_quiet (fail)
  go_wp2_with fail
  have HK3 := Lib.hid (HK2.out.drewN nq)
  obtain ⟨W, hW⟩ : ∃ W, W = w2.drewN nq := ⟨_, rfl⟩
  have hWk : Kept NoB w2 W := by rw [hW]; exact (Kept.refl _ _).drewN _
  rw [← hW] at HK3 ⊢
  have c0 := hWk.cell (p := ⟨w.heap.size, 0, none⟩) (fun h => h) c0
  have c1 := hWk.cell (p := ⟨w.heap.size, 1, none⟩) (fun h => h) c1
  have c2 := hWk.cell (p := ⟨w.heap.size, 2, none⟩) (fun h => h) c2
  have c3 := hWk.cell (p := ⟨w.heap.size, 3, none⟩) (fun h => h) c3
  have e0 := hWk.cell (p := ⟨b, o + ch * 5, none⟩) (fun h => h) e0
  have e1 := hWk.cell (p := ⟨b, o + ch * 5 + 1, none⟩) (fun h => h) e1
  have e2 := hWk.cell (p := ⟨b, o + ch * 5 + 2, none⟩) (fun h => h) e2
  have e3 := hWk.cell (p := ⟨b, o + ch * 5 + 3, none⟩) (fun h => h) e3
  have e4 := hWk.cell (p := ⟨b, o + ch * 5 + 4, none⟩) (fun h => h) e4
  clear hW hWk
  have HKc := Lib.hid (Kept.refl NoB W)
  go_region_held3 (fun w' => w'.cell? ⟨w.heap.size, 0, none⟩ = some (.int .i64 3) ∧ w'.cell? ⟨w.heap.size, 1, none⟩ = some (.int .i64 (ch : Int)) ∧ w'.cell? ⟨w.heap.size, 2, none⟩ = some (.int .u64 ep) ∧ w'.cell? ⟨w.heap.size, 3, none⟩ = some (.int .i64 nd) ∧ w'.cell? ⟨b, o + ch * 5, none⟩ = some (.int .i64 cch) ∧ w'.cell? ⟨b, o + ch * 5 + 1, none⟩ = some (.int .u64 ep) ∧ w'.cell? ⟨b, o + ch * 5 + 2, none⟩ = some (.slice ua ns.length uc) ∧ w'.cell? ⟨b, o + ch * 5 + 3, none⟩ = some (.bool fr) ∧ w'.cell? ⟨b, o + ch * 5 + 4, none⟩ = some (.int .i64 jn))
    (first
      | exact ⟨cell_drew c0, cell_drew c1, cell_drew c2, cell_drew c3, cell_drew e0, cell_drew e1, cell_drew e2, cell_drew e3, cell_drew e4⟩
      | exact ⟨HKc.out.cell (p := ⟨w.heap.size, 0, none⟩) (fun h => h) c0, HKc.out.cell (p := ⟨w.heap.size, 1, none⟩) (fun h => h) c1, HKc.out.cell (p := ⟨w.heap.size, 2, none⟩) (fun h => h) c2, HKc.out.cell (p := ⟨w.heap.size, 3, none⟩) (fun h => h) c3, HKc.out.cell (p := ⟨b, o + ch * 5, none⟩) (fun h => h) e0, HKc.out.cell (p := ⟨b, o + ch * 5 + 1, none⟩) (fun h => h) e1, HKc.out.cell (p := ⟨b, o + ch * 5 + 2, none⟩) (fun h => h) e2, HKc.out.cell (p := ⟨b, o + ch * 5 + 3, none⟩) (fun h => h) e3, HKc.out.cell (p := ⟨b, o + ch * 5 + 4, none⟩) (fun h => h) e4⟩
      | go_keep)
    ((go_at_call 61; refine (HC.out _ HK3.out.drew).mono ?_; rintro e w5 ⟨rfl, hk5⟩; replace HKc := Lib.hid (HKc.out.drew.trans hk5 (fun _ _ h => h)); clear hk5))
  all_goals
    have HKF := Lib.hid (HK3.out.trans HKc.out (fun _ _ h => h))
    clear c0 c1 c2 c3 e0 e1 e2 e3 e4
    go_wp2
    go_ret
    exact ⟨rfl, HKF.out⟩
set_option maxRecDepth 100000 in
set_option maxHeartbeats 4000000 in
theorem RCan_4 (v : Value) (l : List Cf) (ch : Nat) (ep nd : Int) (F : Nat → Prop) (w : World) (h : CfsAt w F v l) (hlen : l.length ≤ 1000) (hA : AllC l) (hx : Chk 4 ch ep nd 0) (hep : 0 ≤ ep) (hch : ch < l.length) (he : ep = (nthC l ch).ep) :
    Calls Tryd.prog 25 #[v, .agg #[.int .i64 4, .int .i64 ch, .int .u64 ep, .int .i64 nd]] w (IntE (endE (canK l (nthC l ch) 4 nd) ep) w) := by
  obtain ⟨a, cap, rfl, _⟩ := id h
  have hl : l.length ≤ 9223372036854775807 := by omega
  have HA : Hid (∀ w', Kept NoB w w' → _) := Lib.hid (fun w' (hk : Kept NoB w w') => RAll_yes _ l F w' (h.kept hk (fun _ _ _ h => h)) hlen hA)
  have HX : Hid (∀ w, Calls Tryd.prog 60 #[.agg #[.int .i64 4, .int .i64 ch, .int .u64 ep, .int .i64 nd]] w fun e w' => e = .returned (.int .i64 0) ∧ Kept NoB w w') :=
    Lib.hid (fun w => (RCheck_any 4 ch ep nd w hep).mono (by rintro e w' ⟨y, hy, rfl, hk⟩; exact ⟨by rw [hy.one hx], hk⟩))
  have H := Lib.hid h
  obtain ⟨b, o, rfl, _, _, u, e0, e1, e2, e3, e4, hns, hbd⟩ := h.at_ hch
  obtain ⟨ua, uc, rfl, _⟩ := id hns
  have hcv := cf_eta _ _ _ _ hns hbd
  have hn1 : 1 ≤ (nthC l ch).ns.length := (hA.2.2 ch hch).1.2.2.2.1
  have hn5 : (nthC l ch).ns.length ≤ 5 := (hA.2.2 ch hch).1.2.2.2.2.1
  have HC : Hid (∀ w', Kept NoB w w' → _) := Lib.hid (fun w' (hk : Kept NoB w w') => rcan_4 (.slice (some ⟨b, o, none⟩) l.length cap) _ l (nthC l ch) ch ep nd F F w' (h.kept hk (fun _ _ _ h => h)) (hcv.kept hk (fun _ _ _ h => h)) hn1 hn5)
  obtain ⟨r, hr⟩ : ∃ r, r = endE (canK l (nthC l ch) 4 nd) ep := ⟨_, rfl⟩
  rw [← he, ← hr] at HC
  rw [← hr]
  obtain ⟨c, hc⟩ : ∃ c, c = nthC l ch := ⟨_, rfl⟩
  rw [← hc] at e0 e1 e2 e3 e4 he HC
  obtain ⟨cch, cep, ns, fr, jn⟩ := c
  simp only at e0 e1 e2 e3 e4 he HC
  subst he
  have hk1 : (ch : Int) < (l.length : Int) := by omega
  have hk0 : (0 : Int) ≤ (ch : Int) := by omega
  have hge : decide ((l.length : Int) ≤ (ch : Int)) = false := decide_eq_false (by omega)
  have HB := Lib.hid (heap_alloc_new w (.cells #[.int .i64 4, .int .i64 (ch : Int), .int .u64 ep, .int .i64 nd] 42))
  have HK := Lib.hid ((Kept.refl NoB w).alloc (.cells #[.int .i64 4, .int .i64 (ch : Int), .int .u64 ep, .int .i64 nd] 42))
  clear hA hx h hcv hns hbd hr hc hn1 hn5 hch hep
  have E := Lib.hid (And.intro e0 (And.intro e1 (And.intro e2 (And.intro e3 e4))))
  clear e0 e1 e2 e3 e4
  go_enter Tryd.func25, Tryd.ntmps25
  go_wp2_with fail
  refine (HA.out _ HK.out).mono ?_
  rintro e w1 ⟨rfl, hk⟩
  have HK1 := Lib.hid (HK.out.trans hk (fun _ _ h => h))
  have HB1 := Lib.hid (hk.heap (fun h => h) HB.out)
  obtain ⟨c0, c1, c2, c3⟩ := cells4c HB1.out
  clear hk
  go_wp2_with fail
  refine (HX.out _).mono ?_
  rintro e w2 ⟨rfl, hk⟩
  have HK2 := Lib.hid (HK1.out.trans hk (fun _ _ h => h))
  have HB2 := Lib.hid (hk.heap (fun h => h) HB1.out)
  clear hk c0 c1 c2 c3
  obtain ⟨c0, c1, c2, c3⟩ := cells4c HB2.out
  obtain ⟨g0, g1, g2, g3, g4⟩ := E.out
  have e0 := HK2.out.cell (p := ⟨b, o + ch * 5, none⟩) (fun h => h) g0
  have e1 := HK2.out.cell (p := ⟨b, o + ch * 5 + 1, none⟩) (fun h => h) g1
  have e2 := HK2.out.cell (p := ⟨b, o + ch * 5 + 2, none⟩) (fun h => h) g2
  have e3 := HK2.out.cell (p := ⟨b, o + ch * 5 + 3, none⟩) (fun h => h) g3
  have e4 := HK2.out.cell (p := ⟨b, o + ch * 5 + 4, none⟩) (fun h => h) g4
  clear g0 g1 g2 g3 g4
  go_wp2_with fail
  go_quiet (fail)
  go_wp2_with fail
  have HK3 := Lib.hid (HK2.out.drewN nq)
  obtain ⟨W, hW⟩ : ∃ W, W = w2.drewN nq := ⟨_, rfl⟩
  have hWk : Kept NoB w2 W := by rw [hW]; exact (Kept.refl _ _).drewN _
  rw [← hW] at HK3 ⊢
  have c0 := hWk.cell (p := ⟨w.heap.size, 0, none⟩) (fun h => h) c0
  have c1 := hWk.cell (p := ⟨w.heap.size, 1, none⟩) (fun h => h) c1
  have c2 := hWk.cell (p := ⟨w.heap.size, 2, none⟩) (fun h => h) c2
  have c3 := hWk.cell (p := ⟨w.heap.size, 3, none⟩) (fun h => h) c3
  have e0 := hWk.cell (p := ⟨b, o + ch * 5, none⟩) (fun h => h) e0
  have e1 := hWk.cell (p := ⟨b, o + ch * 5 + 1, none⟩) (fun h => h) e1
  have e2 := hWk.cell (p := ⟨b, o + ch * 5 + 2, none⟩) (fun h => h) e2
  have e3 := hWk.cell (p := ⟨b, o + ch * 5 + 3, none⟩) (fun h => h) e3
  have e4 := hWk.cell (p := ⟨b, o + ch * 5 + 4, none⟩) (fun h => h) e4
  clear hW hWk
  have HKc := Lib.hid (Kept.refl NoB W)
  go_region_held3 (fun w' => w'.cell? ⟨w.heap.size, 0, none⟩ = some (.int .i64 4) ∧ w'.cell? ⟨w.heap.size, 1, none⟩ = some (.int .i64 (ch : Int)) ∧ w'.cell? ⟨w.heap.size, 2, none⟩ = some (.int .u64 ep) ∧ w'.cell? ⟨w.heap.size, 3, none⟩ = some (.int .i64 nd) ∧ w'.cell? ⟨b, o + ch * 5, none⟩ = some (.int .i64 cch) ∧ w'.cell? ⟨b, o + ch * 5 + 1, none⟩ = some (.int .u64 ep) ∧ w'.cell? ⟨b, o + ch * 5 + 2, none⟩ = some (.slice ua ns.length uc) ∧ w'.cell? ⟨b, o + ch * 5 + 3, none⟩ = some (.bool fr) ∧ w'.cell? ⟨b, o + ch * 5 + 4, none⟩ = some (.int .i64 jn))
    (first
      | exact ⟨cell_drew c0, cell_drew c1, cell_drew c2, cell_drew c3, cell_drew e0, cell_drew e1, cell_drew e2, cell_drew e3, cell_drew e4⟩
      | exact ⟨HKc.out.cell (p := ⟨w.heap.size, 0, none⟩) (fun h => h) c0, HKc.out.cell (p := ⟨w.heap.size, 1, none⟩) (fun h => h) c1, HKc.out.cell (p := ⟨w.heap.size, 2, none⟩) (fun h => h) c2, HKc.out.cell (p := ⟨w.heap.size, 3, none⟩) (fun h => h) c3, HKc.out.cell (p := ⟨b, o + ch * 5, none⟩) (fun h => h) e0, HKc.out.cell (p := ⟨b, o + ch * 5 + 1, none⟩) (fun h => h) e1, HKc.out.cell (p := ⟨b, o + ch * 5 + 2, none⟩) (fun h => h) e2, HKc.out.cell (p := ⟨b, o + ch * 5 + 3, none⟩) (fun h => h) e3, HKc.out.cell (p := ⟨b, o + ch * 5 + 4, none⟩) (fun h => h) e4⟩
      | go_keep)
    ((go_at_call 61; refine (HC.out _ HK3.out.drew).mono ?_; rintro e w5 ⟨rfl, hk5⟩; replace HKc := Lib.hid (HKc.out.drew.trans hk5 (fun _ _ h => h)); clear hk5))
  all_goals
    have HKF := Lib.hid (HK3.out.trans HKc.out (fun _ _ h => h))
    clear c0 c1 c2 c3 e0 e1 e2 e3 e4
    go_wp2
    go_ret
    exact ⟨rfl, HKF.out⟩
set_option maxRecDepth 100000 in
set_option maxHeartbeats 2000000 in
theorem RCan_any (v : Value) (l : List Cf) (e0 k ch ep nd : Int) (F : Nat → Prop) (w : World) (h : CfsAt w F v l) (hlen : l.length ≤ 1000) (hx : Chk k ch ep nd e0) (hep : 0 ≤ ep) :
    Calls Tryd.prog 25 #[v, cmdv k ch ep nd] w (IntE (canC l e0 k ch ep nd) w) := by
  obtain ⟨a, cap, rfl, _⟩ := id h
  have hl : l.length ≤ 9223372036854775807 := by have := h.len; unfold maxLen at this; omega
  have HX : Hid (∀ w, Calls Tryd.prog 60 #[.agg #[.int .i64 k, .int .i64 ch, .int .u64 ep, .int .i64 nd]] w fun e w' => e = .returned (.int .i64 e0) ∧ Kept NoB w w') :=
    Lib.hid (fun w => (RCheck_any k ch ep nd w hep).mono (by rintro e w' ⟨y, hy, rfl, hk⟩; exact ⟨by rw [hy.one hx], hk⟩))
  have HB := Lib.hid (heap_alloc_new w (.cells #[.int .i64 k, .int .i64 ch, .int .u64 ep, .int .i64 nd] 42))
  have HK := Lib.hid ((Kept.refl NoB w).alloc (.cells #[.int .i64 k, .int .i64 ch, .int .u64 ep, .int .i64 nd] 42))
  by_cases hA : AllC l
  rotate_left
  · have HE : Hid (canC l e0 k ch ep nd = 1) := Lib.hid (by unfold canC; rw [if_pos hA])
    have HN : Hid (∀ w', Kept NoB w w' → _) := Lib.hid (fun w' (hk : Kept NoB w w') => RAll_no _ l F w' (h.kept hk (fun _ _ _ h => h)) hlen hA)
    clear hA h hx
    go_enter Tryd.func25, Tryd.ntmps25
    go_wp2_with fail
    refine (HN.out _ HK.out).mono ?_
    rintro e w1 ⟨rfl, hk⟩
    have HK1 := Lib.hid (HK.out.trans hk (fun _ _ h => h))
    clear hk
    go_wp2
    go_ret
    exact ⟨(by rw [HE.out] <;> rfl), HK1.out⟩
  have HN : Hid (∀ w', Kept NoB w w' → _) := Lib.hid (fun w' (hk : Kept NoB w w') => RAll_yes _ l F w' (h.kept hk (fun _ _ _ h => h)) hlen hA)
  by_cases h0 : e0 = 0
  rotate_left
  · have HE : Hid (canC l e0 k ch ep nd = e0) := Lib.hid (by unfold canC; rw [if_neg (fun x => x hA), if_pos h0])
    have h0b : ((e0 : Int) != 0) = true := by simpa using h0
    clear hA h hx h0
    go_enter Tryd.func25, Tryd.ntmps25
    go_wp2_with fail
    refine (HN.out _ HK.out).mono ?_
    rintro e w1 ⟨rfl, hk⟩
    have HK1 := Lib.hid (HK.out.trans hk (fun _ _ h => h))
    obtain ⟨c0, c1, c2, c3⟩ := cells4c (hk.heap (fun h => h) HB.out)
    clear hk
    go_wp2_with fail
    refine (HX.out _).mono ?_
    rintro e w2 ⟨rfl, hk⟩
    have HK2 := Lib.hid (HK1.out.trans hk (fun _ _ h => h))
    clear hk c0 c1 c2 c3
    go_wp2
    go_ret
    exact ⟨(by rw [HE.out] <;> rfl), HK2.out⟩
  subst h0
  have hV := Chk.ok.1 hx
  unfold Vld at hV
  by_cases hk0 : k = 0
  · subst hk0
    have HE : Hid (canC l 0 0 ch ep nd = 0) := Lib.hid (by unfold canC; rw [if_neg (fun x => x hA), if_neg (by decide), if_pos rfl])
    clear hA h hx hV
    go_enter Tryd.func25, Tryd.ntmps25
    go_wp2_with fail
    refine (HN.out _ HK.out).mono ?_
    rintro e w1 ⟨rfl, hk⟩
    have HK1 := Lib.hid (HK.out.trans hk (fun _ _ h => h))
    have HB1 := Lib.hid (hk.heap (fun h => h) HB.out)
    obtain ⟨c0, c1, c2, c3⟩ := cells4c HB1.out
    clear hk
    go_wp2_with fail
    refine (HX.out _).mono ?_
    rintro e w2 ⟨rfl, hk⟩
    have HK2 := Lib.hid (HK1.out.trans hk (fun _ _ h => h))
    have d0 := (cells4c (hk.heap (fun h => h) HB1.out)).1
    clear hk c0 c1 c2 c3
    go_wp2
    go_ret
    exact ⟨(by rw [HE.out] <;> rfl), HK2.out⟩
  obtain ⟨hk1, hk4, hch0, hch3, hep1, hnd1, hnd2⟩ : 1 ≤ k ∧ k ≤ 4 ∧ 0 ≤ ch ∧ ch ≤ 3 ∧ 1 ≤ ep ∧ 1 ≤ nd ∧ nd ≤ 24 := by
    rcases hV with ⟨h, _⟩ | h
    · exact absurd h hk0
    · exact h
  have hkb : ((k : Int) == 0) = false := by simpa using hk0
  by_cases hlc : (l.length : Int) ≤ ch
  · have HE : Hid (canC l 0 k ch ep nd = 7) := Lib.hid (by unfold canC; rw [if_neg (fun x => x hA), if_neg (by decide), if_neg hk0, if_pos hlc])
    have hge : decide ((l.length : Int) ≤ ch) = true := decide_eq_true hlc
    clear hA h hx hV hk0 hlc
    go_enter Tryd.func25, Tryd.ntmps25
    go_wp2_with fail
    refine (HN.out _ HK.out).mono ?_
    rintro e w1 ⟨rfl, hk⟩
    have HK1 := Lib.hid (HK.out.trans hk (fun _ _ h => h))
    have HB1 := Lib.hid (hk.heap (fun h => h) HB.out)
    obtain ⟨c0, c1, c2, c3⟩ := cells4c HB1.out
    clear hk
    go_wp2_with fail
    refine (HX.out _).mono ?_
    rintro e w2 ⟨rfl, hk⟩
    have HK2 := Lib.hid (HK1.out.trans hk (fun _ _ h => h))
    obtain ⟨d0, d1, _, _⟩ := cells4c (hk.heap (fun h => h) HB1.out)
    clear hk c0 c1 c2 c3
    go_wp2
    go_ret
    exact ⟨(by rw [HE.out] <;> rfl), HK2.out⟩
  obtain ⟨j, rfl⟩ := Int.eq_ofNat_of_zero_le hch0
  have hj : j < l.length := by omega
  have ejn : ((j : Int)).toNat = j := by omega
  by_cases hee : ep = (nthC l j).ep
  · have HE : canC l 0 k j ep nd = endE (canK l (nthC l j) k nd) ep := by
      unfold canC endE
      rw [if_neg (fun x => x hA), if_neg (by decide), if_neg hk0, if_neg hlc, ejn, if_neg (fun x => x hee), ← hee]
    rw [HE]
    rcases (by omega : k = 1 ∨ k = 2 ∨ k = 3 ∨ k = 4) with rfl | rfl | rfl | rfl
    · exact RCan_1 _ l j ep nd F w h hlen hA hx hep hj hee
    · exact RCan_2 _ l j ep nd F w h hlen hA hx hep hj hee
    · exact RCan_3 _ l j ep nd F w h hlen hA hx hep hj hee
    · exact RCan_4 _ l j ep nd F w h hlen hA hx hep hj hee
  · have HE : Hid (canC l 0 k j ep nd = 10) := Lib.hid (by unfold canC; rw [if_neg (fun x => x hA), if_neg (by decide), if_neg hk0, if_neg hlc, ejn, if_pos hee])
    obtain ⟨b, o, rfl, _, _, u, e0, e1, e2, e3, e4, hns, hbd⟩ := h.at_ hj
    obtain ⟨ua, uc, rfl, _⟩ := id hns
    obtain ⟨c, hc⟩ : ∃ c, c = nthC l j := ⟨_, rfl⟩
    rw [← hc] at e0 e1 e2 e3 e4 hee
    obtain ⟨cch, cep, ns, fr, jn⟩ := c
    simp only at e0 e1 e2 e3 e4 hee
    have heb : ((cep : Int) != (ep : Int)) = true := by simpa using (fun h => hee h.symm)
    have hk1' : (j : Int) < (l.length : Int) := by omega
    have hge : decide ((l.length : Int) ≤ (j : Int)) = false := decide_eq_false (by omega)
    have E := Lib.hid (And.intro e0 (And.intro e1 (And.intro e2 (And.intro e3 e4))))
    clear hA h hx hV hk0 hlc hee hc hns hbd e0 e1 e2 e3 e4
    go_enter Tryd.func25, Tryd.ntmps25
    go_wp2_with fail
    refine (HN.out _ HK.out).mono ?_
    rintro e w1 ⟨rfl, hk⟩
    have HK1 := Lib.hid (HK.out.trans hk (fun _ _ h => h))
    have HB1 := Lib.hid (hk.heap (fun h => h) HB.out)
    obtain ⟨c0, c1, c2, c3⟩ := cells4c HB1.out
    clear hk
    go_wp2_with fail
    refine (HX.out _).mono ?_
    rintro e w2 ⟨rfl, hk⟩
    have HK2 := Lib.hid (HK1.out.trans hk (fun _ _ h => h))
    have HB2 := Lib.hid (hk.heap (fun h => h) HB1.out)
    clear hk c0 c1 c2 c3
    obtain ⟨c0, c1, c2, c3⟩ := cells4c HB2.out
    obtain ⟨g0, g1, g2, g3, g4⟩ := E.out
    have e0 := HK2.out.cell (p := ⟨b, o + j * 5, none⟩) (fun h => h) g0
    have e1 := HK2.out.cell (p := ⟨b, o + j * 5 + 1, none⟩) (fun h => h) g1
    have e2 := HK2.out.cell (p := ⟨b, o + j * 5 + 2, none⟩) (fun h => h) g2
    have e3 := HK2.out.cell (p := ⟨b, o + j * 5 + 3, none⟩) (fun h => h) g3
    have e4 := HK2.out.cell (p := ⟨b, o + j * 5 + 4, none⟩) (fun h => h) g4
    have hlt2 := heap_lt HB2.out
    clear g0 g1 g2 g3 g4
    have hk0' : (0 : Int) ≤ (j : Int) := by omega
    go_wp2
    go_quiet (fail)
    go_wp2
    go_ret
    exact ⟨(by rw [HE.out] <;> rfl), HK2.out.drewN _⟩
end Go.Proofs.YtlnfbfdmicmafaaDoor
