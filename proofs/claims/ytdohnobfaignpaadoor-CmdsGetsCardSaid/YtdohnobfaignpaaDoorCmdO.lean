/-
  Package cmds: Get, Decode.
-/
import Derived.Test.YtdohnobfaignpaaDoorCmdN
namespace Go.Proofs.YtdohnobfaignpaaDoor
open Go.RowKit Go.Sort Go.Lib
set_option linter.unusedVariables false

def GetEnd (s : ISt) (g : Nat) (F : Nat → Prop) (w : World) (r : Ending) (w' : World) : Prop :=
  ∃ k ch ep nd e : Nat, GetIs s k ch ep nd e ∧ e < 100 ∧ r = .returned (.tuple #[.agg #[.int .i64 k, .int .i64 ch, .int .u64 ep, .int .i64 nd], .int .i64 e]) ∧ InAt w' F g (s.raw 11).1 ∧ Kept (Only g) w w'
theorem new_kept {S : Nat → Prop} {w0 w : World} (h : Kept S w0 w) {b : Nat} (hb : w0.heap.size ≤ b) (o : Nat) (u : Value) : Kept S w0 (w.setCell ⟨b, o, none⟩ u) := h.setCell (p := ⟨b, o, none⟩) (.inr hb) u
theorem cmd_kept' {S : Nat → Prop} {w0 w : World} {b : Nat} {k ch ep nd : Int} (h : Kept S w0 w) (hb : w0.heap.size ≤ b) :
    Kept S w0 ((((w.setCell ⟨b, 0, none⟩ (.int .i64 k)).setCell ⟨b, 1, none⟩ (.int .i64 ch)).setCell ⟨b, 2, none⟩ (.int .u64 ep)).setCell ⟨b, 3, none⟩ (.int .i64 nd)) :=
  new_kept (new_kept (new_kept (new_kept h hb _ _) hb _ _) hb _ _) hb _ _
theorem InAt.set {w : World} {F : Nat → Prop} {g : Nat} {s : ISt} (h : InAt w F g s) {b : Nat} (hF : ∀ k, F k → k ≠ b) (hg : g ≠ b) (o : Nat) (u : Value) : InAt (w.setCell ⟨b, o, none⟩ u) F g s :=
  h.kept (S := Only b) ((Kept.refl _ w).only o u) hF hg
/-- What the four numbers say. -/
theorem get_is (s : ISt) (hB : IsB s.l) (hok : s.ok) {v1 v2 v3 v4 : Int} (e1 : (s.get 1).2 = v1) (e2 : (s.c1.get 1).2 = v2) (e3 : (s.c2.get 8).2 = v3) (e4 : (s.c3.get 1).2 = v4) (h : (s.raw 11).1.err = 0) :
    ∃ k ch ep nd : Nat, v1 = k ∧ v2 = ch ∧ v3 = ep ∧ v4 = nd ∧ (Vld k ch ep nd → GetIs s k ch ep nd 0) ∧ (¬ Vld k ch ep nd → GetIs s 0 0 0 0 4) := by
  obtain ⟨k, ch, ep, nd, a1, a2, a3, a4, he, h0, ht, b1, b2, b3⟩ := c4_ok s hB h
  refine ⟨k, ch, ep, nd, by omega, by omega, by omega, by omega, fun hv => .inl ⟨rfl, h0, ⟨hv, he⟩, ht⟩, fun hv => .inr ⟨rfl, rfl, rfl, rfl, ?_, by rw [if_pos h]; rfl⟩⟩
  rintro k' ch' ep' nd' hc ⟨_, hc2⟩
  have hle := hc.le
  have hq := ht.symm.trans hc2
  unfold cbs at hq
  obtain ⟨hq, h4⟩ := app_inj hq (by simp [be_len])
  obtain ⟨hq, h3⟩ := app_inj hq (by simp [be_len])
  obtain ⟨h1, h2⟩ := app_inj hq (by simp [be_len])
  have q1 := be_inj h1 (by omega) (by omega)
  have q2 := be_inj h2 (by omega) (by omega)
  have q3 := be_inj h3 (by omega) (by omega)
  have q4 := be_inj h4 (by omega) (by omega)
  subst q1 q2 q3 q4
  exact hv hc.1
theorem raw_l (s : ISt) (hok : s.ok) (h : (s.raw 11).1.err ≠ 0) : GetIs s 0 0 0 0 (s.raw 11).1.err.toNat ∧ ((s.raw 11).1.err.toNat : Int) = (s.raw 11).1.err ∧ (s.raw 11).1.err.toNat < 100 := by
  have hk := (ISt.raw_ok hok 11).2
  have e : ((s.raw 11).1.err.toNat : Int) = (s.raw 11).1.err := by omega
  refine ⟨.inr ⟨rfl, rfl, rfl, rfl, ?_, by rw [e, if_neg h]⟩, e, by omega⟩
  rintro k ch ep nd hc ⟨h0, hl⟩
  obtain ⟨l, err⟩ := s
  obtain rfl : err = 0 := h0
  have hl2 : (l.take 11).length = 11 := by
    show (List.take 11 (ISt.mk l 0).l).length = 11
    rw [hl, cbs_len]
  rw [List.length_take] at hl2
  rw [show (11 : Int) = ((11 : Nat) : Int) from rfl, raw_ok' l 11 (by omega)] at h
  exact h rfl
theorem get8_le (s : ISt) (hB : IsB s.l) : 0 ≤ (s.get 8).2 ∧ (s.get 8).2 ≤ 18446744073709551615 := by
  have e : (s.get 8).2 = (num (s.raw 8).2 : Int) := by unfold ISt.get; rw [if_neg (by omega)]
  have hl := s.raw_len 8
  have hb : IsB (s.raw 8).2 := by
    unfold ISt.raw
    split
    · split
      · exact IsB.nil
      · split
        · exact IsB.nil
        · exact hB.take _
    · exact IsB.nil
  have h1 := num_lt _ hb
  have h2 : 256 ^ (s.raw 8).2.length ≤ 256 ^ 8 := Nat.pow_le_pow_right (by decide) hl
  omega
set_option maxRecDepth 100000 in
set_option maxHeartbeats 2000000 in
theorem CGet_any (g : Nat) (s : ISt) (F : Nat → Prop) (w : World) (h : InAt w F g s) (hF : ∀ k, F k → k < w.heap.size) :
    Calls Tryd.prog 26 #[.pointer (some ⟨g, 0, none⟩)] w (GetEnd s g F w) := by
  have hg : g < w.heap.size := by obtain ⟨_, _, v, hv, _⟩ := h; exact heap_lt hv
  have HO := Lib.hid h
  have HOK := Lib.hid h.isOk
  have HIB := Lib.hid h.isB
  have HF0 : Hid (∀ k, F k → k ≠ w.heap.size + 1) := Lib.hid (fun k hk => by have := hF k hk; omega)
  have HG1 : Hid (g ≠ w.heap.size + 1) := Lib.hid (by omega)
  have HFN : Hid (∀ k, F k → k ≠ w.heap.size) := Lib.hid (fun k hk => by have := hF k hk; omega)
  have HGN : Hid (g ≠ w.heap.size) := Lib.hid (by omega)
  have HN0 : Hid (¬ Only g w.heap.size) := Lib.hid (fun h => by have : w.heap.size = g := h; omega)
  have HN1 : Hid (¬ Only g (w.heap.size + 1)) := Lib.hid (fun h => by have : w.heap.size + 1 = g := h; omega)
  have HFG : Hid (∀ k, F k → ¬ Only g k) := Lib.hid (fun k hk he => by obtain rfl : k = g := he; exact h.1 hk)
  clear h hF
  go_enter Tryd.func26, Tryd.ntmps26
  go_wp2_with fail
  have hsz : (w.alloc (.cells #[.int .i64 0, .int .i64 0, .int .u64 0, .int .i64 0] 24)).heap.size = w.heap.size + 1 := by simp
  have hr0 := balloc (heap_alloc_new w (.cells #[.int .i64 0, .int .i64 0, .int .u64 0, .int .i64 0] 24)) (.cells #[.int .i64 0, .int .i64 0, .int .u64 0, .int .i64 0] 24)
  have hc0 := heap_alloc_new (w.alloc (.cells #[.int .i64 0, .int .i64 0, .int .u64 0, .int .i64 0] 24)) (.cells #[.int .i64 0, .int .i64 0, .int .u64 0, .int .i64 0] 24)
  rw [hsz] at hc0
  have HR0 := Lib.hid hr0
  have HC0 := Lib.hid hc0
  have HK0 := Lib.hid (((Kept.refl NoB w).alloc (.cells #[.int .i64 0, .int .i64 0, .int .u64 0, .int .i64 0] 24)).alloc (.cells #[.int .i64 0, .int .i64 0, .int .u64 0, .int .i64 0] 24))
  have HO0 := Lib.hid (HO.out.kept HK0.out (fun _ _ h => h) (fun h => h))
  clear hr0 hc0 hsz
  refine (Get_any g s 1 F _ HO0.out).mono ?_
  rintro e w1 ⟨rfl, ho, hk⟩
  have hb := get1_le s HIB.out
  obtain ⟨v1, hv⟩ : ∃ v, (s.get 1).2 = v := ⟨_, rfl⟩
  rw [hv] at hb ⊢
  have HV1 := Lib.hid hv
  obtain ⟨hv1a, hv1b⟩ := hb
  have hr := hk.heap HN0.out HR0.out
  have hc := hk.heap HN1.out HC0.out
  have HOa := Lib.hid (show InAt w1 F g s.c1 from ho)
  have HIB1 := Lib.hid ho.isB
  have HKa := Lib.hid ((HK0.out.mono (T := Only g) (fun _ _ h => h.elim)).trans hk (fun _ _ h => h))
  have HC1 := Lib.hid (bset hc 0 (.int .i64 v1))
  have HR1 := Lib.hid (bset_other hr 0 (.int .i64 v1) (show w.heap.size + 1 ≠ w.heap.size by omega))
  have HO1 := Lib.hid (HOa.out.set HF0.out HG1.out 0 (.int .i64 v1))
  have HK1 := Lib.hid (new_kept HKa.out (show w.heap.size ≤ w.heap.size + 1 by omega) 0 (.int .i64 v1))
  have hlc := heap_lt hc
  have hcc : w1.heap[w.heap.size + 1]? = some (.cells #[.int .i64 0, .int .i64 0, .int .u64 0, .int .i64 0] 24 (0, 0)) := hc
  obtain ⟨c0, c1, c2, c3, f0, f1, f2, f3⟩ := cells4 hcc
  clear hr hc hcc ho hk hv HOa HKa
  go_wp2_with fail
  clear c0 c1 c2 c3 f0 f1 f2 f3 hlc
  refine (Get_any g s.c1 1 F _ HO1.out).mono ?_
  rintro e w2 ⟨rfl, ho, hk⟩
  have hb := get1_le s.c1 HIB1.out
  obtain ⟨v2, hv⟩ : ∃ v, (s.c1.get 1).2 = v := ⟨_, rfl⟩
  rw [hv] at hb ⊢
  have HV2 := Lib.hid hv
  obtain ⟨hv2a, hv2b⟩ := hb
  have hr := hk.heap HN0.out HR1.out
  have hc := hk.heap HN1.out HC1.out
  have HOa := Lib.hid (show InAt w2 F g s.c2 from ho)
  have HIB2 := Lib.hid ho.isB
  have HKa := Lib.hid (HK1.out.trans hk (fun _ _ h => h))
  have HC2 := Lib.hid (bset hc 1 (.int .i64 v2))
  have HR2 := Lib.hid (bset_other hr 1 (.int .i64 v2) (show w.heap.size + 1 ≠ w.heap.size by omega))
  have HO2 := Lib.hid (HOa.out.set HF0.out HG1.out 1 (.int .i64 v2))
  have HK2 := Lib.hid (new_kept HKa.out (show w.heap.size ≤ w.heap.size + 1 by omega) 1 (.int .i64 v2))
  have hlc := heap_lt hc
  have hcc : w2.heap[w.heap.size + 1]? = some (.cells #[.int .i64 v1, .int .i64 0, .int .u64 0, .int .i64 0] 24 (0, 0)) := hc
  obtain ⟨c0, c1, c2, c3, f0, f1, f2, f3⟩ := cells4 hcc
  clear hr hc hcc ho hk hv HOa HKa
  go_wp2_with fail
  clear c0 c1 c2 c3 f0 f1 f2 f3 hlc
  refine (Get_any g s.c2 8 F _ HO2.out).mono ?_
  rintro e w3 ⟨rfl, ho, hk⟩
  have hb := get8_le s.c2 HIB2.out
  obtain ⟨v3, hv⟩ : ∃ v, (s.c2.get 8).2 = v := ⟨_, rfl⟩
  rw [hv] at hb ⊢
  have HV3 := Lib.hid hv
  obtain ⟨hv3a, hv3b⟩ := hb
  have hr := hk.heap HN0.out HR2.out
  have hc := hk.heap HN1.out HC2.out
  have HOa := Lib.hid (show InAt w3 F g s.c3 from ho)
  have HIB3 := Lib.hid ho.isB
  have HKa := Lib.hid (HK2.out.trans hk (fun _ _ h => h))
  have HC3 := Lib.hid (bset hc 2 (.int .u64 v3))
  have HR3 := Lib.hid (bset_other hr 2 (.int .u64 v3) (show w.heap.size + 1 ≠ w.heap.size by omega))
  have HO3 := Lib.hid (HOa.out.set HF0.out HG1.out 2 (.int .u64 v3))
  have HK3 := Lib.hid (new_kept HKa.out (show w.heap.size ≤ w.heap.size + 1 by omega) 2 (.int .u64 v3))
  have hlc := heap_lt hc
  have hcc : w3.heap[w.heap.size + 1]? = some (.cells #[.int .i64 v1, .int .i64 v2, .int .u64 0, .int .i64 0] 24 (0, 0)) := hc
  obtain ⟨c0, c1, c2, c3, f0, f1, f2, f3⟩ := cells4 hcc
  clear hr hc hcc ho hk hv HOa HKa
  go_wp2_with fail
  clear c0 c1 c2 c3 f0 f1 f2 f3 hlc
  refine (Get_any g s.c3 1 F _ HO3.out).mono ?_
  rintro e w4 ⟨rfl, ho, hk⟩
  have hb := get1_le s.c3 HIB3.out
  obtain ⟨v4, hv⟩ : ∃ v, (s.c3.get 1).2 = v := ⟨_, rfl⟩
  rw [hv] at hb ⊢
  have HV4 := Lib.hid hv
  obtain ⟨hv4a, hv4b⟩ := hb
  have hr := hk.heap HN0.out HR3.out
  have hc := hk.heap HN1.out HC3.out
  have HOa := Lib.hid (show InAt w4 F g s.c4 from ho)
  have HIB4 := Lib.hid ho.isB
  have HKa := Lib.hid (HK3.out.trans hk (fun _ _ h => h))
  have HC4 := Lib.hid (bset hc 3 (.int .i64 v4))
  have HR4 := Lib.hid (bset_other hr 3 (.int .i64 v4) (show w.heap.size + 1 ≠ w.heap.size by omega))
  have HO4 := Lib.hid (HOa.out.set HF0.out HG1.out 3 (.int .i64 v4))
  have HK4 := Lib.hid (new_kept HKa.out (show w.heap.size ≤ w.heap.size + 1 by omega) 3 (.int .i64 v4))
  have hlc := heap_lt hc
  have hcc : w4.heap[w.heap.size + 1]? = some (.cells #[.int .i64 v1, .int .i64 v2, .int .u64 v3, .int .i64 0] 24 (0, 0)) := hc
  obtain ⟨c0, c1, c2, c3, f0, f1, f2, f3⟩ := cells4 hcc
  clear hr hc hcc ho hk hv HOa HKa
  go_wp2_with fail
  clear c0 c1 c2 c3 f0 f1 f2 f3 hlc
  refine (Err_any g s.c4 F _ HO4.out).mono ?_
  rintro e w5 ⟨rfl, rfl⟩
  have HC5 : Hid ((w4.setCell ⟨w.heap.size + 1, 3, none⟩ (.int .i64 v4)).heap[w.heap.size + 1]? = some (.cells #[.int .i64 v1, .int .i64 v2, .int .u64 v3, .int .i64 v4] 24 (0, 0))) := Lib.hid HC4.out
  have HO5 : Hid (InAt (w4.setCell ⟨w.heap.size + 1, 3, none⟩ (.int .i64 v4)) F g (s.raw 11).1) := Lib.hid (c4_raw s ▸ HO4.out)
  have hq : s.c4.err = (s.raw 11).1.err := by rw [c4_raw]
  rw [hq]
  generalize hW : World.setCell w4 _ _ = W at HC5 HR4 HO5 HK4 ⊢
  clear hW hq HO4 HC4 HC3 HC2 HC1 HC0 HR3 HR2 HR1 HR0 HO3 HO2 HO1 HO0 HK3 HK2 HK1 HK0 HIB1 HIB2 HIB3
  obtain ⟨c0, c1, c2, c3, f0, f1, f2, f3⟩ := cells4 HC5.out
  obtain ⟨r0, r1, r2, r3, g0, g1, g2, g3⟩ := cells4 HR4.out
  have hlc := heap_lt HC5.out
  have hlr := heap_lt HR4.out
  by_cases he : (s.raw 11).1.err = 0
  · obtain ⟨k, ch, ep, nd, rfl, rfl, rfl, rfl, hy, hn⟩ := get_is s HIB.out HOK.out HV1.out HV2.out HV3.out HV4.out he
    rw [he]
    have HY := Lib.hid hy
    have HN := Lib.hid hn
    have hep : ep < 18446744073709551616 := by omega
    clear hy hn he HV1 HV2 HV3 HV4
    by_cases hV : Vld k ch ep nd
    · have HVL := Lib.hid hV
      have HX : Hid (∀ w, Calls Tryd.prog 10 #[.agg #[.int .i64 (k : Int), .int .i64 (ch : Int), .int .u64 (ep : Int), .int .i64 (nd : Int)]] w fun e w' => e = .returned (.int .i64 0) ∧ Kept NoB w w') :=
        Lib.hid (fun w => (Check_any k ch ep nd w (by omega)).mono (by rintro e w' ⟨y, hy, rfl, hk⟩; exact ⟨by rw [hy.one (Chk.ok.2 hV)], hk⟩))
      clear hV
      go_wp2_with fail
      refine (HX.out _).mono ?_
      rintro e w6 ⟨rfl, hk⟩
      have HR6 := Lib.hid (hk.heap (fun h => h) HR4.out)
      have hc6 := hk.heap (fun h => h) HC5.out
      have HK6 := Lib.hid (HK4.out.trans hk (fun _ _ h => h.elim))
      have HO6 := Lib.hid (HO5.out.kept hk (fun _ _ h => h) (fun h => h))
      clear c0 c1 c2 c3 f0 f1 f2 f3 r0 r1 r2 r3 g0 g1 g2 g3 hlc hlr hk
      obtain ⟨c0, c1, c2, c3, f0, f1, f2, f3⟩ := cells4 hc6
      obtain ⟨r0, r1, r2, r3, g0, g1, g2, g3⟩ := cells4 HR6.out
      have hlc := heap_lt hc6
      have hlr := heap_lt HR6.out
      clear hc6
      go_wp2
      have hfin := cmd_cells (k := k) (ch := ch) (ep := ep) (nd := nd) HR6.out
      have hkf := cmd_kept' (k := k) (ch := ch) (ep := ep) (nd := nd) HK6.out (Nat.le_refl w.heap.size)
      have hof := (((HO6.out.set HFN.out HGN.out 0 (.int .i64 (k : Int))).set HFN.out HGN.out 1 (.int .i64 (ch : Int))).set HFN.out HGN.out 2 (.int .u64 (ep : Int))).set HFN.out HGN.out 3 (.int .i64 (nd : Int))
      generalize hW : World.setCell (World.setCell (World.setCell (World.setCell w6 _ _) _ _) _ _) _ _ = W2 at hfin hkf hof ⊢
      obtain ⟨r0, r1, r2, r3, _⟩ := cells4 hfin
      exact bodyPost_ret (v := .tuple #[.agg #[.int .i64 k, .int .i64 ch, .int .u64 ep, .int .i64 nd], .int .i64 0]) (by simp [results, Tryd.results26, go_sem, r0, r1, r2, r3]) rfl ⟨k, ch, ep, nd, 0, HY.out HVL.out, by decide, rfl, hof, hkf⟩
    · obtain ⟨x, hx⟩ : ∃ x, Chk k ch ep nd x := ⟨_, chk_is _ _ _ _⟩
      have hx0 : x ≠ 0 := fun h => hV (Chk.ok.1 (h ▸ hx))
      have hxb : (x != 0) = true := by simpa using hx0
      have HVL := Lib.hid hV
      have HX : Hid (∀ w, Calls Tryd.prog 10 #[.agg #[.int .i64 (k : Int), .int .i64 (ch : Int), .int .u64 (ep : Int), .int .i64 (nd : Int)]] w fun e w' => e = .returned (.int .i64 x) ∧ Kept NoB w w') :=
        Lib.hid (fun w => (Check_any k ch ep nd w (by omega)).mono (by rintro e w' ⟨y, hy, rfl, hk⟩; exact ⟨by rw [hy.one hx], hk⟩))
      clear hV hx hx0
      go_wp2_with fail
      refine (HX.out _).mono ?_
      rintro e w6 ⟨rfl, hk⟩
      have HR6 := Lib.hid (hk.heap (fun h => h) HR4.out)
      have HK6 := Lib.hid (HK4.out.trans hk (fun _ _ h => h.elim))
      have HO6 := Lib.hid (HO5.out.kept hk (fun _ _ h => h) (fun h => h))
      clear c0 c1 c2 c3 f0 f1 f2 f3 r0 r1 r2 r3 g0 g1 g2 g3 hlc hlr hk
      obtain ⟨r0, r1, r2, r3, g0, g1, g2, g3⟩ := cells4 HR6.out
      have hlr := heap_lt HR6.out
      go_wp2
      have hfin := cmd_cells (k := 0) (ch := 0) (ep := 0) (nd := 0) HR6.out
      have hkf := cmd_kept' (k := 0) (ch := 0) (ep := 0) (nd := 0) HK6.out (Nat.le_refl w.heap.size)
      have hof := (((HO6.out.set HFN.out HGN.out 0 (.int .i64 0)).set HFN.out HGN.out 1 (.int .i64 0)).set HFN.out HGN.out 2 (.int .u64 0)).set HFN.out HGN.out 3 (.int .i64 0)
      generalize hW : World.setCell (World.setCell (World.setCell (World.setCell w6 _ _) _ _) _ _) _ _ = W2 at hfin hkf hof ⊢
      obtain ⟨r0, r1, r2, r3, _⟩ := cells4 hfin
      exact bodyPost_ret (v := .tuple #[.agg #[.int .i64 0, .int .i64 0, .int .u64 0, .int .i64 0], .int .i64 4]) (by simp [results, Tryd.results26, go_sem, r0, r1, r2, r3]) rfl ⟨0, 0, 0, 0, 4, HN.out HVL.out, by decide, rfl, hof, hkf⟩
  · obtain ⟨hG, hE, hL⟩ := raw_l s HOK.out he
    have HE := Lib.hid hE
    have HL := Lib.hid hL
    have HGI := Lib.hid hG
    obtain ⟨x, hx⟩ : ∃ x, (s.raw 11).1.err = x := ⟨_, rfl⟩
    have HXE := Lib.hid hx
    rw [hx] at he ⊢
    have hxb : (x != 0) = true := by simpa using he
    clear hG hE hL hx HV1 HV2 HV3 HV4 he
    go_wp2
    have hfin := cmd_cells (k := 0) (ch := 0) (ep := 0) (nd := 0) HR4.out
    have hkf := cmd_kept' (k := 0) (ch := 0) (ep := 0) (nd := 0) HK4.out (Nat.le_refl w.heap.size)
    have hof := (((HO5.out.set HFN.out HGN.out 0 (.int .i64 0)).set HFN.out HGN.out 1 (.int .i64 0)).set HFN.out HGN.out 2 (.int .u64 0)).set HFN.out HGN.out 3 (.int .i64 0)
    generalize hW : World.setCell (World.setCell (World.setCell (World.setCell W _ _) _ _) _ _) _ _ = W2 at hfin hkf hof ⊢
    obtain ⟨r0, r1, r2, r3, _⟩ := cells4 hfin
    exact bodyPost_ret (v := .tuple #[.agg #[.int .i64 0, .int .i64 0, .int .u64 0, .int .i64 0], .int .i64 x]) (by simp [results, Tryd.results26, go_sem, r0, r1, r2, r3]) rfl ⟨0, 0, 0, 0, _, HGI.out, HL.out, by rw [HE.out, HXE.out]; rfl, hof, hkf⟩
end Go.Proofs.YtdohnobfaignpaaDoor
