/-
  The chapter's can, of each kind.
-/
import Derived.Test.YtlnfbfdmicmafaaDoorCnfZ
namespace Go.Proofs.YtlnfbfdmicmafaaDoor
open Go.RowKit
set_option linter.unusedVariables false

set_option maxRecDepth 100000 in
set_option maxHeartbeats 4000000 in
theorem rcan_1 (lv v : Value) (l : List Cf) (c : Cf) (ch ep nd : Int) (F G : Nat → Prop) (w : World) (hl : CfsAt w G lv l) (h : CfV w F v c) (h1 : 1 ≤ c.ns.length) (h5 : c.ns.length ≤ 5) :
    Calls Tryd.prog 61 #[lv, v, .agg #[.int .i64 1, .int .i64 ch, .int .u64 ep, .int .i64 nd]] w (IntE (endE (canK l c 1 nd) c.ep) w) := by
  obtain ⟨u, rfl, hn, hbd⟩ := id h
  obtain ⟨a, cap, rfl, _⟩ := id hn
  obtain ⟨la, lc, rfl, _⟩ := id hl
  have hnl := hbd.2.2
  have HM := Lib.hid (fun w' (hk : Kept NoB w w') => Stands_any _ c F w' (h.kept hk (fun _ _ _ h => h)))
  have HS := Lib.hid (fun w' (hk : Kept NoB w w') => RSettled_any _ c F w' (h.kept hk (fun _ _ _ h => h)))
  have hsl : c.set.length ≤ 1000 := by
    unfold Cf.set
    split
    · split
      · rw [List.length_take]; omega
      · exact hnl
    · simp
  obtain ⟨d, hd⟩ : ∃ d, d = decide (nd ∈ c.mem) := ⟨_, rfl⟩
  have HD := Lib.hid (fun v (F : Nat → Prop) w (h : NSl w F v c.mem) => hd ▸ Has4_any v c.mem nd F w h)
  have HC := Lib.hid (fun v (F : Nat → Prop) w (h : NSl w F v c.set) => Without_any v c.set nd F w h hsl)
  obtain ⟨q, hq⟩ : ∃ q, q = (wo c.set nd).length := ⟨_, rfl⟩
  have HX : Hid (canK l c 1 nd = if d = true then (if q = 0 then 12 else 0) else 7) := Lib.hid (by
    unfold canK
    rw [if_pos rfl, hd, hq]
    by_cases h1 : nd ∈ c.mem
    · rw [if_neg (fun h => h h1), decide_eq_true h1, if_pos rfl]
      by_cases h2 : ∀ x ∈ c.set, x = nd
      · rw [if_pos h2, if_pos]
        rw [List.length_eq_zero_iff, List.filter_eq_nil_iff]
        intro x hx
        simpa using h2 x hx
      · rw [if_neg h2, if_neg]
        rw [List.length_eq_zero_iff, List.filter_eq_nil_iff]
        intro h3
        exact h2 fun x hx => by simpa using h3 x hx
    · rw [if_pos h1, decide_eq_false h1]; rfl)
  have HQ := Lib.hid hq
  clear hd hq hsl
  obtain ⟨M, hM⟩ : ∃ x, x = c.mem := ⟨_, rfl⟩
  obtain ⟨T, hT⟩ : ∃ x, x = c.set := ⟨_, rfl⟩
  rw [← hM] at HM HD
  rw [← hT] at HS HC HQ
  clear hM hT
  have hn1 := hn.kept (((Kept.refl NoB w).alloc (.cells #[.int .i64 c.ch, .int .u64 c.ep, .slice a c.ns.length cap, .bool c.fr, .int .i64 c.jn] 26)).alloc (.cells #[.int .i64 1, .int .i64 ch, .int .u64 ep, .int .i64 nd] 42)) (fun _ _ _ h => h)
  obtain ⟨b, o, rfl, _, _, hc⟩ := hn1.at_ (j := c.ns.length - 1) (by omega)
  have HLA : Hid (c.last = c.ns.getD (c.ns.length - 1) 0) := Lib.hid rfl
  obtain ⟨x, hx⟩ : ∃ x, x = c.ns.getD (c.ns.length - 1) 0 := ⟨_, rfl⟩
  rw [← hx] at hc HLA
  obtain ⟨r, hr⟩ : ∃ r, r = canK l c 1 nd := ⟨_, rfl⟩
  rw [← hr] at HX ⊢
  have HE0 : Hid (∀ e, endE 0 e = if e = topE then 9 else 0) := Lib.hid (fun e => by unfold endE; rw [if_neg (by decide)])
  have HE1 : Hid (∀ y e, y ≠ 0 → endE y e = y) := Lib.hid (fun y e hy => by unfold endE; rw [if_pos hy])
  have htop : topE = 18446744073709551615 := rfl
  have HTOP := Lib.hid htop
  clear h hn hbd hr hl hn1 hx htop
  obtain ⟨cch, cep, ns, fr, jn⟩ := c
  simp only at HX HLA hc hnl h1 h5 HM HS ⊢
  obtain ⟨m, hm⟩ : ∃ m, m = ns.length - 1 := ⟨_, rfl⟩
  obtain ⟨n, hnn⟩ : ∃ n, n = ns.length := ⟨_, rfl⟩
  have hml : n = m + 1 := by omega
  rw [← hm] at hc
  rw [← hnn] at hc hnl h5 HM HS ⊢
  have HML := Lib.hid hml
  have hmi : (n : Int) - 1 = (m : Int) := by omega
  have hm0 : (0 : Int) ≤ (m : Int) := by omega
  have hm1 : (m : Int) < (n : Int) := by omega
  have HMI := Lib.hid hmi
  clear hm hnn hml h1 hmi
  have hb0 := balloc (heap_alloc_new w (.cells #[.int .i64 cch, .int .u64 cep, .slice (some ⟨b, o, none⟩) n cap, .bool fr, .int .i64 jn] 26)) (.cells #[.int .i64 1, .int .i64 ch, .int .u64 ep, .int .i64 nd] 42)
  have hz : (w.alloc (.cells #[.int .i64 cch, .int .u64 cep, .slice (some ⟨b, o, none⟩) n cap, .bool fr, .int .i64 jn] 26)).heap.size = w.heap.size + 1 := by simp
  have hi0 := heap_alloc_new (w.alloc (.cells #[.int .i64 cch, .int .u64 cep, .slice (some ⟨b, o, none⟩) n cap, .bool fr, .int .i64 jn] 26)) (.cells #[.int .i64 1, .int .i64 ch, .int .u64 ep, .int .i64 nd] 42)
  rw [hz] at hi0
  have HK := Lib.hid (((Kept.refl NoB w).alloc (.cells #[.int .i64 cch, .int .u64 cep, .slice (some ⟨b, o, none⟩) n cap, .bool fr, .int .i64 jn] 26)).alloc (.cells #[.int .i64 1, .int .i64 ch, .int .u64 ep, .int .i64 nd] 42))
  have HB := Lib.hid hb0
  have HI := Lib.hid hi0
  have hmi := HMI.out
  clear hz hb0 hi0
  go_enter Tryd.func61, Tryd.ntmps61
  go_wp2_with fail
  generalize (w.alloc (.cells #[.int .i64 cch, .int .u64 cep, .slice (some ⟨b, o, none⟩) n cap, .bool fr, .int .i64 jn] 26)).alloc (.cells #[.int .i64 1, .int .i64 ch, .int .u64 ep, .int .i64 nd] 42) = W at hc HB HI HK ⊢
  obtain ⟨c0, c1, c2, c3, c4⟩ := cells5 HB.out
  obtain ⟨d0, d1, d2, d3⟩ := cells4c HI.out
  have HKc := Lib.hid (Kept.refl NoB W)
  go_region_held3 (fun w' => w'.cell? ⟨w.heap.size, 0, none⟩ = some (.int .i64 cch) ∧ w'.cell? ⟨w.heap.size, 1, none⟩ = some (.int .u64 cep) ∧ w'.cell? ⟨w.heap.size, 2, none⟩ = some (.slice (some ⟨b, o, none⟩) n cap) ∧ w'.cell? ⟨w.heap.size, 3, none⟩ = some (.bool fr) ∧ w'.cell? ⟨w.heap.size, 4, none⟩ = some (.int .i64 jn) ∧ w'.cell? ⟨w.heap.size + 1, 3, none⟩ = some (.int .i64 nd))
    (first
      | exact ⟨cell_drew c0, cell_drew c1, cell_drew c2, cell_drew c3, cell_drew c4, cell_drew d3⟩
      | exact ⟨HKc.out.cell (p := ⟨w.heap.size, 0, none⟩) (fun h => h) c0, HKc.out.cell (p := ⟨w.heap.size, 1, none⟩) (fun h => h) c1, HKc.out.cell (p := ⟨w.heap.size, 2, none⟩) (fun h => h) c2, HKc.out.cell (p := ⟨w.heap.size, 3, none⟩) (fun h => h) c3, HKc.out.cell (p := ⟨w.heap.size, 4, none⟩) (fun h => h) c4, HKc.out.cell (p := ⟨w.heap.size + 1, 3, none⟩) (fun h => h) d3⟩
      | go_keep)
    (first
      | (go_at_call 45; refine (HM.out _ HK.out.drew).mono ?_; rintro e w1 ⟨v', rfl, hown, hk1⟩; have HN := Lib.hid hown.nslB; replace HKc := Lib.hid (HKc.out.drew.trans hk1 (fun _ _ h => h)); clear hown hk1)
      | (go_at_call 52; refine (HD.out _ _ _ HN.out).mono ?_; rintro e w2 ⟨rfl, rfl⟩))
  all_goals
    have hnot : ∀ (x : Bool) (w : World), (Op.unary .not (.bool x)).run Tryd.prog w = .ok (.bool (!x)) w := fun _ _ => rfl
    have HKF := Lib.hid (HK.out.trans HKc.out (fun _ _ h => h))
    cases d with
    | false =>
      have HX' : Hid (r = 7) := Lib.hid (by rw [HX.out]; rfl)
      have HF : Hid (endE r cep = 7) := Lib.hid (by rw [HX'.out, HE1.out _ _ (by decide)])
      go_wp2
      go_ret
      exact ⟨(by rw [HF.out] <;> rfl), HKF.out⟩
    | true =>
      have HB2 := Lib.hid (HKc.out.heap (fun h => h) HB.out)
      have HI2 := Lib.hid (HKc.out.heap (fun h => h) HI.out)
      rename World => W2
      clear c0 c1 c2 c3 c4 d0 d1 d2 d3
      obtain ⟨c0, c1, c2, c3, c4⟩ := cells5 HB2.out
      obtain ⟨d0, d1, d2, d3⟩ := cells4c HI2.out
      clear HKc
      go_wp2_with fail
      have HKc := Lib.hid (Kept.refl NoB W2)
      go_region_held3 (fun w' => w'.cell? ⟨w.heap.size, 0, none⟩ = some (.int .i64 cch) ∧ w'.cell? ⟨w.heap.size, 1, none⟩ = some (.int .u64 cep) ∧ w'.cell? ⟨w.heap.size, 2, none⟩ = some (.slice (some ⟨b, o, none⟩) n cap) ∧ w'.cell? ⟨w.heap.size, 3, none⟩ = some (.bool fr) ∧ w'.cell? ⟨w.heap.size, 4, none⟩ = some (.int .i64 jn) ∧ w'.cell? ⟨w.heap.size + 1, 3, none⟩ = some (.int .i64 nd))
        (first
      | exact ⟨cell_drew c0, cell_drew c1, cell_drew c2, cell_drew c3, cell_drew c4, cell_drew d3⟩
      | exact ⟨HKc.out.cell (p := ⟨w.heap.size, 0, none⟩) (fun h => h) c0, HKc.out.cell (p := ⟨w.heap.size, 1, none⟩) (fun h => h) c1, HKc.out.cell (p := ⟨w.heap.size, 2, none⟩) (fun h => h) c2, HKc.out.cell (p := ⟨w.heap.size, 3, none⟩) (fun h => h) c3, HKc.out.cell (p := ⟨w.heap.size, 4, none⟩) (fun h => h) c4, HKc.out.cell (p := ⟨w.heap.size + 1, 3, none⟩) (fun h => h) d3⟩
      | go_keep)
        (first
          | (go_at_call 15; refine (HS.out _ HKF.out.drew).mono ?_; rintro e w3 ⟨v', rfl, hn3, hk1⟩; have HN3 := Lib.hid hn3; replace HKc := Lib.hid (HKc.out.drew.trans hk1 (fun _ _ h => h)); clear hn3 hk1)
          | (go_at_call 90; refine (HC.out _ _ _ HN3.out).mono ?_; rintro e w4 ⟨v4, rfl, hown, hk1⟩; obtain ⟨va, vc, rfl⟩ := hown.form; rw [← HQ.out]; replace HKc := Lib.hid (HKc.out.trans hk1 (fun _ _ h => h)); clear hown hk1))
      all_goals
        have HKG := Lib.hid (HKF.out.trans HKc.out (fun _ _ h => h))
        clear c0 c1 c2 c3 c4 d0 d1 d2 d3
        have c1 := (cells5 (HKc.out.heap (fun h => h) HB2.out)).2.1
        by_cases hq0 : q = 0
        · subst hq0
          have HX' : Hid (r = 12) := Lib.hid (by rw [HX.out]; rfl)
          have HF : Hid (endE r cep = 12) := Lib.hid (by rw [HX'.out, HE1.out _ _ (by decide)])
          go_wp2
          go_ret
          exact ⟨(by rw [HF.out] <;> rfl), HKG.out⟩
        · have hqb : ((q : Int) == 0) = false := by simp; omega
          have HX' : Hid (r = 0) := Lib.hid (by rw [HX.out]; simp [hq0])
          clear hq0
          by_cases ht : cep = topE
          · have HF : Hid (endE r cep = 9) := Lib.hid (by rw [HX'.out, HE0.out, if_pos ht])
            have htb : ((cep : Int) == 18446744073709551615) = true := by rw [ht]; rfl
            clear ht
            go_wp2
            go_ret
            exact ⟨(by rw [HF.out] <;> rfl), HKG.out⟩
          · have HF : Hid (endE r cep = 0) := Lib.hid (by rw [HX'.out, HE0.out, if_neg ht])
            have htb : ((cep : Int) == 18446744073709551615) = false := by
              have : cep ≠ 18446744073709551615 := ht
              simpa using this
            clear ht
            go_wp2
            go_ret
            exact ⟨(by rw [HF.out] <;> rfl), HKG.out⟩

set_option maxRecDepth 100000 in
set_option maxHeartbeats 4000000 in
theorem rcan_2 (lv v : Value) (l : List Cf) (c : Cf) (ch ep nd : Int) (F G : Nat → Prop) (w : World) (hl : CfsAt w G lv l) (h : CfV w F v c) (h1 : 1 ≤ c.ns.length) (h5 : c.ns.length ≤ 5) :
    Calls Tryd.prog 61 #[lv, v, .agg #[.int .i64 2, .int .i64 ch, .int .u64 ep, .int .i64 nd]] w (IntE (endE (canK l c 2 nd) c.ep) w) := by
  obtain ⟨u, rfl, hn, hbd⟩ := id h
  obtain ⟨a, cap, rfl, _⟩ := id hn
  obtain ⟨la, lc, rfl, _⟩ := id hl
  have hnl := hbd.2.2
  obtain ⟨d, hd⟩ : ∃ d, d = usedB l nd := ⟨_, rfl⟩
  have HU := Lib.hid (fun w' (hk : Kept NoB w w') => hd ▸ RUsed_any _ l nd G w' (hl.kept hk (fun _ _ _ h => h)))
  have HX : Hid (canK l c 2 nd = if d = true then 8 else if c.jn ≠ 0 ∨ c.fr = true then 12 else if 5 ≤ c.ns.length then 9 else 0) := Lib.hid (k2_is l c nd d hd)
  clear hd
  have hn1 := hn.kept (((Kept.refl NoB w).alloc (.cells #[.int .i64 c.ch, .int .u64 c.ep, .slice a c.ns.length cap, .bool c.fr, .int .i64 c.jn] 26)).alloc (.cells #[.int .i64 2, .int .i64 ch, .int .u64 ep, .int .i64 nd] 42)) (fun _ _ _ h => h)
  obtain ⟨b, o, rfl, _, _, hc⟩ := hn1.at_ (j := c.ns.length - 1) (by omega)
  have HLA : Hid (c.last = c.ns.getD (c.ns.length - 1) 0) := Lib.hid rfl
  obtain ⟨x, hx⟩ : ∃ x, x = c.ns.getD (c.ns.length - 1) 0 := ⟨_, rfl⟩
  rw [← hx] at hc HLA
  obtain ⟨r, hr⟩ : ∃ r, r = canK l c 2 nd := ⟨_, rfl⟩
  rw [← hr] at HX ⊢
  have HE0 : Hid (∀ e, endE 0 e = if e = topE then 9 else 0) := Lib.hid (fun e => by unfold endE; rw [if_neg (by decide)])
  have HE1 : Hid (∀ y e, y ≠ 0 → endE y e = y) := Lib.hid (fun y e hy => by unfold endE; rw [if_pos hy])
  have htop : topE = 18446744073709551615 := rfl
  have HTOP := Lib.hid htop
  clear h hn hbd hr hl hn1 hx htop
  obtain ⟨cch, cep, ns, fr, jn⟩ := c
  simp only at HX HLA hc hnl h1 h5  ⊢
  obtain ⟨m, hm⟩ : ∃ m, m = ns.length - 1 := ⟨_, rfl⟩
  obtain ⟨n, hnn⟩ : ∃ n, n = ns.length := ⟨_, rfl⟩
  have hml : n = m + 1 := by omega
  rw [← hm] at hc
  rw [← hnn] at hc hnl h5 HX ⊢
  have HML := Lib.hid hml
  have hmi : (n : Int) - 1 = (m : Int) := by omega
  have hm0 : (0 : Int) ≤ (m : Int) := by omega
  have hm1 : (m : Int) < (n : Int) := by omega
  have HMI := Lib.hid hmi
  clear hm hnn hml h1 hmi
  have hb0 := balloc (heap_alloc_new w (.cells #[.int .i64 cch, .int .u64 cep, .slice (some ⟨b, o, none⟩) n cap, .bool fr, .int .i64 jn] 26)) (.cells #[.int .i64 2, .int .i64 ch, .int .u64 ep, .int .i64 nd] 42)
  have hz : (w.alloc (.cells #[.int .i64 cch, .int .u64 cep, .slice (some ⟨b, o, none⟩) n cap, .bool fr, .int .i64 jn] 26)).heap.size = w.heap.size + 1 := by simp
  have hi0 := heap_alloc_new (w.alloc (.cells #[.int .i64 cch, .int .u64 cep, .slice (some ⟨b, o, none⟩) n cap, .bool fr, .int .i64 jn] 26)) (.cells #[.int .i64 2, .int .i64 ch, .int .u64 ep, .int .i64 nd] 42)
  rw [hz] at hi0
  have HK := Lib.hid (((Kept.refl NoB w).alloc (.cells #[.int .i64 cch, .int .u64 cep, .slice (some ⟨b, o, none⟩) n cap, .bool fr, .int .i64 jn] 26)).alloc (.cells #[.int .i64 2, .int .i64 ch, .int .u64 ep, .int .i64 nd] 42))
  have HB := Lib.hid hb0
  have HI := Lib.hid hi0
  have hmi := HMI.out
  clear hz hb0 hi0
  by_cases hj : jn = 0
  rotate_left
  · have hjb : ((jn : Int) != 0) = true := by simpa using hj
    cases d with
    | true =>
      have HF : Hid (endE r cep = 8) := Lib.hid (by rw [HX.out, if_pos rfl, HE1.out _ _ (by decide)])
      clear hj
      go_enter Tryd.func61, Tryd.ntmps61
      go_wp2_with fail
      refine (HU.out _ HK.out).mono ?_
      rintro e w1 ⟨rfl, hk⟩
      have HK1 := Lib.hid (HK.out.trans hk (fun _ _ h => h))
      clear hk
      go_wp2
      go_ret
      exact ⟨(by rw [HF.out] <;> rfl), HK1.out⟩
    | false =>
      have HF : Hid (endE r cep = 12) := Lib.hid (by rw [HX.out, if_neg (by decide), if_pos (.inl hj), HE1.out _ _ (by decide)])
      clear hj
      go_enter Tryd.func61, Tryd.ntmps61
      go_wp2_with fail
      refine (HU.out _ HK.out).mono ?_
      rintro e w1 ⟨rfl, hk⟩
      have HK1 := Lib.hid (HK.out.trans hk (fun _ _ h => h))
      obtain ⟨c0, c1, c2, c3, c4⟩ := cells5 (hk.heap (fun h => h) HB.out)
      clear hk
      go_wp2
      go_ret
      exact ⟨(by rw [HF.out] <;> rfl), HK1.out⟩
  subst hj
  cases d with
  | true =>
    have HF : Hid (endE r cep = 8) := Lib.hid (by rw [HX.out, if_pos rfl, HE1.out _ _ (by decide)])
    go_enter Tryd.func61, Tryd.ntmps61
    go_wp2_with fail
    refine (HU.out _ HK.out).mono ?_
    rintro e w1 ⟨rfl, hk⟩
    have HK1 := Lib.hid (HK.out.trans hk (fun _ _ h => h))
    clear hk
    go_wp2
    go_ret
    exact ⟨(by rw [HF.out] <;> rfl), HK1.out⟩
  | false =>
    cases fr with
    | true =>
      have HF : Hid (endE r cep = 12) := Lib.hid (by rw [HX.out, if_neg (by decide), if_pos (.inr rfl), HE1.out _ _ (by decide)])
      go_enter Tryd.func61, Tryd.ntmps61
      go_wp2_with fail
      refine (HU.out _ HK.out).mono ?_
      rintro e w1 ⟨rfl, hk⟩
      have HK1 := Lib.hid (HK.out.trans hk (fun _ _ h => h))
      obtain ⟨c0, c1, c2, c3, c4⟩ := cells5 (hk.heap (fun h => h) HB.out)
      clear hk
      go_wp2
      go_ret
      exact ⟨(by rw [HF.out] <;> rfl), HK1.out⟩
    | false =>
      by_cases hn5 : n = 5
      · have HF : Hid (endE r cep = 9) := Lib.hid (by rw [HX.out, if_neg (by decide), if_neg (by simp), if_pos (by omega), HE1.out _ _ (by decide)])
        have hnb : ((n : Int) == 5) = true := by simp; omega
        clear hn5
        go_enter Tryd.func61, Tryd.ntmps61
        go_wp2_with fail
        refine (HU.out _ HK.out).mono ?_
        rintro e w1 ⟨rfl, hk⟩
        have HK1 := Lib.hid (HK.out.trans hk (fun _ _ h => h))
        obtain ⟨c0, c1, c2, c3, c4⟩ := cells5 (hk.heap (fun h => h) HB.out)
        clear hk
        go_wp2
        go_ret
        exact ⟨(by rw [HF.out] <;> rfl), HK1.out⟩
      · have HX' : Hid (r = 0) := Lib.hid (by rw [HX.out, if_neg (by decide), if_neg (by simp), if_neg (by omega)])
        have hnb : ((n : Int) == 5) = false := by simp; omega
        clear hn5
        go_enter Tryd.func61, Tryd.ntmps61
        go_wp2_with fail
        refine (HU.out _ HK.out).mono ?_
        rintro e w1 ⟨rfl, hk⟩
        have HK1 := Lib.hid (HK.out.trans hk (fun _ _ h => h))
        obtain ⟨c0, c1, c2, c3, c4⟩ := cells5 (hk.heap (fun h => h) HB.out)
        clear hk
        by_cases ht : cep = topE
        · have HF : Hid (endE r cep = 9) := Lib.hid (by rw [HX'.out, HE0.out, if_pos ht])
          have htb : ((cep : Int) == 18446744073709551615) = true := by rw [ht]; rfl
          clear ht
          go_wp2
          go_ret
          exact ⟨(by rw [HF.out] <;> rfl), HK1.out⟩
        · have HF : Hid (endE r cep = 0) := Lib.hid (by rw [HX'.out, HE0.out, if_neg ht])
          have htb : ((cep : Int) == 18446744073709551615) = false := by
            have : cep ≠ 18446744073709551615 := ht
            simpa using this
          clear ht
          go_wp2
          go_ret
          exact ⟨(by rw [HF.out] <;> rfl), HK1.out⟩

set_option maxRecDepth 100000 in
set_option maxHeartbeats 4000000 in
theorem rcan_3 (lv v : Value) (l : List Cf) (c : Cf) (ch ep nd : Int) (F G : Nat → Prop) (w : World) (hl : CfsAt w G lv l) (h : CfV w F v c) (h1 : 1 ≤ c.ns.length) (h5 : c.ns.length ≤ 5) :
    Calls Tryd.prog 61 #[lv, v, .agg #[.int .i64 3, .int .i64 ch, .int .u64 ep, .int .i64 nd]] w (IntE (endE (canK l c 3 nd) c.ep) w) := by
  obtain ⟨u, rfl, hn, hbd⟩ := id h
  obtain ⟨a, cap, rfl, _⟩ := id hn
  obtain ⟨la, lc, rfl, _⟩ := id hl
  have hnl := hbd.2.2
  have HX : Hid (canK l c 3 nd = if c.jn ≠ nd then 7 else if 5 ≤ c.ns.length then 9 else 0) := Lib.hid (k3_is l c nd)
  have hn1 := hn.kept (((Kept.refl NoB w).alloc (.cells #[.int .i64 c.ch, .int .u64 c.ep, .slice a c.ns.length cap, .bool c.fr, .int .i64 c.jn] 26)).alloc (.cells #[.int .i64 3, .int .i64 ch, .int .u64 ep, .int .i64 nd] 42)) (fun _ _ _ h => h)
  obtain ⟨b, o, rfl, _, _, hc⟩ := hn1.at_ (j := c.ns.length - 1) (by omega)
  have HLA : Hid (c.last = c.ns.getD (c.ns.length - 1) 0) := Lib.hid rfl
  obtain ⟨x, hx⟩ : ∃ x, x = c.ns.getD (c.ns.length - 1) 0 := ⟨_, rfl⟩
  rw [← hx] at hc HLA
  obtain ⟨r, hr⟩ : ∃ r, r = canK l c 3 nd := ⟨_, rfl⟩
  rw [← hr] at HX ⊢
  have HE0 : Hid (∀ e, endE 0 e = if e = topE then 9 else 0) := Lib.hid (fun e => by unfold endE; rw [if_neg (by decide)])
  have HE1 : Hid (∀ y e, y ≠ 0 → endE y e = y) := Lib.hid (fun y e hy => by unfold endE; rw [if_pos hy])
  have htop : topE = 18446744073709551615 := rfl
  have HTOP := Lib.hid htop
  clear h hn hbd hr hl hn1 hx htop
  obtain ⟨cch, cep, ns, fr, jn⟩ := c
  simp only at HX HLA hc hnl h1 h5  ⊢
  obtain ⟨m, hm⟩ : ∃ m, m = ns.length - 1 := ⟨_, rfl⟩
  obtain ⟨n, hnn⟩ : ∃ n, n = ns.length := ⟨_, rfl⟩
  have hml : n = m + 1 := by omega
  rw [← hm] at hc
  rw [← hnn] at hc hnl h5 HX ⊢
  have HML := Lib.hid hml
  have hmi : (n : Int) - 1 = (m : Int) := by omega
  have hm0 : (0 : Int) ≤ (m : Int) := by omega
  have hm1 : (m : Int) < (n : Int) := by omega
  have HMI := Lib.hid hmi
  clear hm hnn hml h1 hmi
  have hb0 := balloc (heap_alloc_new w (.cells #[.int .i64 cch, .int .u64 cep, .slice (some ⟨b, o, none⟩) n cap, .bool fr, .int .i64 jn] 26)) (.cells #[.int .i64 3, .int .i64 ch, .int .u64 ep, .int .i64 nd] 42)
  have hz : (w.alloc (.cells #[.int .i64 cch, .int .u64 cep, .slice (some ⟨b, o, none⟩) n cap, .bool fr, .int .i64 jn] 26)).heap.size = w.heap.size + 1 := by simp
  have hi0 := heap_alloc_new (w.alloc (.cells #[.int .i64 cch, .int .u64 cep, .slice (some ⟨b, o, none⟩) n cap, .bool fr, .int .i64 jn] 26)) (.cells #[.int .i64 3, .int .i64 ch, .int .u64 ep, .int .i64 nd] 42)
  rw [hz] at hi0
  have HK := Lib.hid (((Kept.refl NoB w).alloc (.cells #[.int .i64 cch, .int .u64 cep, .slice (some ⟨b, o, none⟩) n cap, .bool fr, .int .i64 jn] 26)).alloc (.cells #[.int .i64 3, .int .i64 ch, .int .u64 ep, .int .i64 nd] 42))
  have HB := Lib.hid hb0
  have HI := Lib.hid hi0
  have hmi := HMI.out
  clear hz hb0 hi0
  by_cases hj : jn = nd
  rotate_left
  · have hjb : ((jn : Int) != (nd : Int)) = true := by simpa using hj
    have HF : Hid (endE r cep = 7) := Lib.hid (by rw [HX.out, if_pos hj, HE1.out _ _ (by decide)])
    clear hj
    go_enter Tryd.func61, Tryd.ntmps61
    go_wp2_with fail
    go_ret
    exact ⟨(by rw [HF.out] <;> rfl), HK.out⟩
  subst hj
  by_cases hn5 : n = 5
  · have HF : Hid (endE r cep = 9) := Lib.hid (by rw [HX.out, if_neg (by simp), if_pos (by omega), HE1.out _ _ (by decide)])
    have hnb : ((n : Int) == 5) = true := by simp; omega
    clear hn5
    go_enter Tryd.func61, Tryd.ntmps61
    go_wp2_with fail
    go_ret
    exact ⟨(by rw [HF.out] <;> rfl), HK.out⟩
  · have HX' : Hid (r = 0) := Lib.hid (by rw [HX.out, if_neg (by simp), if_neg (by omega)])
    have hnb : ((n : Int) == 5) = false := by simp; omega
    clear hn5
    by_cases ht : cep = topE
    · have HF : Hid (endE r cep = 9) := Lib.hid (by rw [HX'.out, HE0.out, if_pos ht])
      have htb : ((cep : Int) == 18446744073709551615) = true := by rw [ht]; rfl
      clear ht
      go_enter Tryd.func61, Tryd.ntmps61
      go_wp2_with fail
      go_ret
      exact ⟨(by rw [HF.out] <;> rfl), HK.out⟩
    · have HF : Hid (endE r cep = 0) := Lib.hid (by rw [HX'.out, HE0.out, if_neg ht])
      have htb : ((cep : Int) == 18446744073709551615) = false := by
        have : cep ≠ 18446744073709551615 := ht
        simpa using this
      clear ht
      go_enter Tryd.func61, Tryd.ntmps61
      go_wp2_with fail
      go_ret
      exact ⟨(by rw [HF.out] <;> rfl), HK.out⟩

set_option maxRecDepth 100000 in
set_option maxHeartbeats 4000000 in
theorem rcan_4 (lv v : Value) (l : List Cf) (c : Cf) (ch ep nd : Int) (F G : Nat → Prop) (w : World) (hl : CfsAt w G lv l) (h : CfV w F v c) (h1 : 1 ≤ c.ns.length) (h5 : c.ns.length ≤ 5) :
    Calls Tryd.prog 61 #[lv, v, .agg #[.int .i64 4, .int .i64 ch, .int .u64 ep, .int .i64 nd]] w (IntE (endE (canK l c 4 nd) c.ep) w) := by
  obtain ⟨u, rfl, hn, hbd⟩ := id h
  obtain ⟨a, cap, rfl, _⟩ := id hn
  obtain ⟨la, lc, rfl, _⟩ := id hl
  have hnl := hbd.2.2
  have HX : Hid (canK l c 4 nd = if c.fr = false ∨ c.last ≠ nd then 7 else 0) := Lib.hid (k4_is l c nd)
  have hn1 := hn.kept (((Kept.refl NoB w).alloc (.cells #[.int .i64 c.ch, .int .u64 c.ep, .slice a c.ns.length cap, .bool c.fr, .int .i64 c.jn] 26)).alloc (.cells #[.int .i64 4, .int .i64 ch, .int .u64 ep, .int .i64 nd] 42)) (fun _ _ _ h => h)
  obtain ⟨b, o, rfl, _, _, hc⟩ := hn1.at_ (j := c.ns.length - 1) (by omega)
  have HLA : Hid (c.last = c.ns.getD (c.ns.length - 1) 0) := Lib.hid rfl
  obtain ⟨x, hx⟩ : ∃ x, x = c.ns.getD (c.ns.length - 1) 0 := ⟨_, rfl⟩
  rw [← hx] at hc HLA
  obtain ⟨r, hr⟩ : ∃ r, r = canK l c 4 nd := ⟨_, rfl⟩
  rw [← hr] at HX ⊢
  have HE0 : Hid (∀ e, endE 0 e = if e = topE then 9 else 0) := Lib.hid (fun e => by unfold endE; rw [if_neg (by decide)])
  have HE1 : Hid (∀ y e, y ≠ 0 → endE y e = y) := Lib.hid (fun y e hy => by unfold endE; rw [if_pos hy])
  have htop : topE = 18446744073709551615 := rfl
  have HTOP := Lib.hid htop
  clear h hn hbd hr hl hn1 hx htop
  obtain ⟨cch, cep, ns, fr, jn⟩ := c
  simp only at HX HLA hc hnl h1 h5  ⊢
  obtain ⟨m, hm⟩ : ∃ m, m = ns.length - 1 := ⟨_, rfl⟩
  obtain ⟨n, hnn⟩ : ∃ n, n = ns.length := ⟨_, rfl⟩
  have hml : n = m + 1 := by omega
  rw [← hm] at hc
  rw [← hnn] at hc hnl h5  ⊢
  have HML := Lib.hid hml
  have hmi : (n : Int) - 1 = (m : Int) := by omega
  have hm0 : (0 : Int) ≤ (m : Int) := by omega
  have hm1 : (m : Int) < (n : Int) := by omega
  have HMI := Lib.hid hmi
  clear hm hnn hml h1 hmi
  have hb0 := balloc (heap_alloc_new w (.cells #[.int .i64 cch, .int .u64 cep, .slice (some ⟨b, o, none⟩) n cap, .bool fr, .int .i64 jn] 26)) (.cells #[.int .i64 4, .int .i64 ch, .int .u64 ep, .int .i64 nd] 42)
  have hz : (w.alloc (.cells #[.int .i64 cch, .int .u64 cep, .slice (some ⟨b, o, none⟩) n cap, .bool fr, .int .i64 jn] 26)).heap.size = w.heap.size + 1 := by simp
  have hi0 := heap_alloc_new (w.alloc (.cells #[.int .i64 cch, .int .u64 cep, .slice (some ⟨b, o, none⟩) n cap, .bool fr, .int .i64 jn] 26)) (.cells #[.int .i64 4, .int .i64 ch, .int .u64 ep, .int .i64 nd] 42)
  rw [hz] at hi0
  have HK := Lib.hid (((Kept.refl NoB w).alloc (.cells #[.int .i64 cch, .int .u64 cep, .slice (some ⟨b, o, none⟩) n cap, .bool fr, .int .i64 jn] 26)).alloc (.cells #[.int .i64 4, .int .i64 ch, .int .u64 ep, .int .i64 nd] 42))
  have HB := Lib.hid hb0
  have HI := Lib.hid hi0
  have hmi := HMI.out
  clear hz hb0 hi0
  rw [HLA.out] at HX
  cases fr with
  | false =>
    have HF : Hid (endE r cep = 7) := Lib.hid (by rw [HX.out, if_pos (.inl rfl), HE1.out _ _ (by decide)])
    go_enter Tryd.func61, Tryd.ntmps61
    go_wp2_with fail
    go_ret
    exact ⟨(by rw [HF.out] <;> rfl), HK.out⟩
  | true =>
    by_cases hxn : x = nd
    rotate_left
    · have hxb : ((x : Int) != (nd : Int)) = true := by simpa using hxn
      have HF : Hid (endE r cep = 7) := Lib.hid (by rw [HX.out, if_pos (.inr hxn), HE1.out _ _ (by decide)])
      clear hxn
      go_enter Tryd.func61, Tryd.ntmps61
      go_wp2_with fail
      go_ret
      exact ⟨(by rw [HF.out] <;> rfl), HK.out⟩
    subst hxn
    have HX' : Hid (r = 0) := Lib.hid (by rw [HX.out, if_neg (by simp)])
    by_cases ht : cep = topE
    · have HF : Hid (endE r cep = 9) := Lib.hid (by rw [HX'.out, HE0.out, if_pos ht])
      have htb : ((cep : Int) == 18446744073709551615) = true := by rw [ht]; rfl
      clear ht
      go_enter Tryd.func61, Tryd.ntmps61
      go_wp2_with fail
      go_ret
      exact ⟨(by rw [HF.out] <;> rfl), HK.out⟩
    · have HF : Hid (endE r cep = 0) := Lib.hid (by rw [HX'.out, HE0.out, if_neg ht])
      have htb : ((cep : Int) == 18446744073709551615) = false := by
        have : cep ≠ 18446744073709551615 := ht
        simpa using this
      clear ht
      go_enter Tryd.func61, Tryd.ntmps61
      go_wp2_with fail
      go_ret
      exact ⟨(by rw [HF.out] <;> rfl), HK.out⟩

end Go.Proofs.YtlnfbfdmicmafaaDoor
