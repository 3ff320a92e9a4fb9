/-
  Package conf: whether a command is possible.
-/
import Derived.Test.YtbdenjmnohhhiaaDoorCnfW
namespace Go.Proofs.YtbdenjmnohhhiaaDoor
open Go.RowKit
set_option linter.unusedVariables false

/-- The last part's error. -/
def endE (r ep : Int) : Int := if r ≠ 0 then r else if ep = topE then 9 else 0
theorem All_yes (v : Value) (l : List Cf) (F : Nat → Prop) (w : World) (h : CfsAt w F v l) (hA : AllC l) : Calls Tryd.prog 55 #[v] w (BoolE true w) := by
  have := All_any v l F w h
  rwa [show allB l = true from decide_eq_true hA] at this
theorem All_no (v : Value) (l : List Cf) (F : Nat → Prop) (w : World) (h : CfsAt w F v l) (hA : ¬ AllC l) : Calls Tryd.prog 55 #[v] w (BoolE false w) := by
  have := All_any v l F w h
  rwa [show allB l = false from decide_eq_false hA] at this
theorem rule_fld (f g : FuncId) (w : World) : Sem.run Tryd.prog (Instr.field 84 (.agg #[fnv f, fnv g]) 0) w = .ok (fnv f) w := by kernel_rfl
theorem rule_fld1 (f g : FuncId) (w : World) : Sem.run Tryd.prog (Instr.field 84 (.agg #[fnv f, fnv g]) 1) w = .ok (fnv g) w := by kernel_rfl
theorem cells4c {w : World} {b : Nat} {x0 x1 x2 x3 : Value} {t : TypeId} (h : w.heap[b]? = some (.cells #[x0, x1, x2, x3] t (0, 0))) :
    w.cell? ⟨b, 0, none⟩ = some x0 ∧ w.cell? ⟨b, 1, none⟩ = some x1 ∧ w.cell? ⟨b, 2, none⟩ = some x2 ∧ w.cell? ⟨b, 3, none⟩ = some x3 :=
  ⟨cell_of_row _ _ 0 _ _ _ h, cell_of_row _ _ 1 _ _ _ h, cell_of_row _ _ 2 _ _ _ h, cell_of_row _ _ 3 _ _ _ h⟩
set_option maxRecDepth 100000 in
set_option maxHeartbeats 4000000 in
theorem Can_1 (v : Value) (l : List Cf) (ch : Nat) (ep nd : Int) (F : Nat → Prop) (w : World) (h : CfsAt w F v l) (hA : AllC l) (hx : Chk 1 ch ep nd 0) (hep : 0 ≤ ep) (hch : ch < l.length) (he : ep = (nthC l ch).ep) :
    Calls Tryd.prog 37 #[v, .agg #[.int .i64 1, .int .i64 ch, .int .u64 ep, .int .i64 nd]] w (IntE (endE (canK l (nthC l ch) 1 nd) ep) w) := by
  obtain ⟨a, cap, rfl, _⟩ := id h
  have hl : l.length ≤ 9223372036854775807 := by have := h.len; unfold maxLen at this; omega
  have HA : Hid (∀ w', Kept NoB w w' → _) := Lib.hid (fun w' (hk : Kept NoB w w') => All_yes _ l F w' (h.kept hk (fun _ _ _ h => h)) hA)
  have HX : Hid (∀ w, Calls Tryd.prog 56 #[.agg #[.int .i64 1, .int .i64 ch, .int .u64 ep, .int .i64 nd]] w fun e w' => e = .returned (.int .i64 0) ∧ Kept NoB w w') :=
    Lib.hid (fun w => (Check_any 1 ch ep nd w hep).mono (by rintro e w' ⟨y, hy, rfl, hk⟩; exact ⟨by rw [hy.one hx], hk⟩))
  have HRU := Lib.hid (fun w => rule1 w)
  have hfl := fun (f g : FuncId) (w : World) => rule_fld f g w
  have H := Lib.hid h
  obtain ⟨b, o, rfl, _, _, u, e0, e1, e2, e3, e4, hns, hbd⟩ := h.at_ hch
  obtain ⟨ua, uc, rfl, _⟩ := id hns
  have hcv := cf_eta _ _ _ _ hns hbd
  have hn1 : 1 ≤ (nthC l ch).ns.length := (hA.2.2 ch hch).1.2.2.2.1
  have HC : Hid (∀ w', Kept NoB w w' → _) := Lib.hid (fun w' (hk : Kept NoB w w') => canRemove_any (.slice (some ⟨b, o, none⟩) l.length cap) _ l (nthC l ch) nd F w' (hcv.kept hk (fun _ _ _ h => h)))
  obtain ⟨r, hr⟩ : ∃ r, r = canK l (nthC l ch) 1 nd := ⟨_, rfl⟩
  rw [← hr] at HC ⊢
  obtain ⟨c, hc⟩ : ∃ c, c = nthC l ch := ⟨_, rfl⟩
  rw [← hc] at e0 e1 e2 e3 e4 he HC
  obtain ⟨cch, cep, ns, fr, jn⟩ := c
  simp only at e0 e1 e2 e3 e4 he HC
  subst he
  have hk1 : (ch : Int) < (l.length : Int) := by omega
  have hk0 : (0 : Int) ≤ (ch : Int) := by omega
  have hge : decide ((l.length : Int) ≤ (ch : Int)) = false := decide_eq_false (by omega)
  have HB := Lib.hid (heap_alloc_new w (.cells #[.int .i64 1, .int .i64 (ch : Int), .int .u64 ep, .int .i64 nd] 56))
  have HK := Lib.hid ((Kept.refl NoB w).alloc (.cells #[.int .i64 1, .int .i64 (ch : Int), .int .u64 ep, .int .i64 nd] 56))
  clear hA hx h hcv hns hbd hr hc hn1 hch
  have E := Lib.hid (And.intro e0 (And.intro e1 (And.intro e2 (And.intro e3 e4))))
  clear e0 e1 e2 e3 e4
  go_enter Tryd.func37, Tryd.ntmps37
  go_wp2_with fail
  refine (HA.out _ HK.out).mono ?_
  rintro e w1 ⟨rfl, hk⟩
  have HK1 := Lib.hid (HK.out.trans hk (fun _ _ h => h))
  have HB1 := Lib.hid (hk.heap (fun h => h) HB.out)
  obtain ⟨c0, c1, c2, c3⟩ := cells4c HB1.out
  clear hk
  go_wp2_with fail
  refine (HX.out _).mono ?_
  rintro e w2 ⟨rfl, hk⟩
  have HK2 := Lib.hid (HK1.out.trans hk (fun _ _ h => h))
  have HB2 := Lib.hid (hk.heap (fun h => h) HB1.out)
  clear hk c0 c1 c2 c3
  obtain ⟨c0, c1, c2, c3⟩ := cells4c HB2.out
  obtain ⟨g0, g1, g2, g3, g4⟩ := E.out
  have e0 := HK2.out.cell (p := ⟨b, o + ch * 5, none⟩) (fun h => h) g0
  have e1 := HK2.out.cell (p := ⟨b, o + ch * 5 + 1, none⟩) (fun h => h) g1
  have e2 := HK2.out.cell (p := ⟨b, o + ch * 5 + 2, none⟩) (fun h => h) g2
  have e3 := HK2.out.cell (p := ⟨b, o + ch * 5 + 3, none⟩) (fun h => h) g3
  have e4 := HK2.out.cell (p := ⟨b, o + ch * 5 + 4, none⟩) (fun h => h) g4
  have hlt2 := heap_lt HB2.out
  have c0b := cell_alloc c0 (.cells #[.int .i64 cch, .int .u64 ep, .slice ua ns.length uc, .bool fr, .int .i64 jn] 25)
  have c2b := cell_alloc c2 (.cells #[.int .i64 cch, .int .u64 ep, .slice ua ns.length uc, .bool fr, .int .i64 jn] 25)
  have c3b := cell_alloc c3 (.cells #[.int .i64 cch, .int .u64 ep, .slice ua ns.length uc, .bool fr, .int .i64 jn] 25)
  have hnow := heap_alloc_new w2 (.cells #[.int .i64 cch, .int .u64 ep, .slice ua ns.length uc, .bool fr, .int .i64 jn] 25)
  have HK3 := Lib.hid (HK2.out.alloc (.cells #[.int .i64 cch, .int .u64 ep, .slice ua ns.length uc, .bool fr, .int .i64 jn] 25))
  have HNOW := Lib.hid hnow
  clear g0 g1 g2 g3 g4 hnow
  go_wp2_with fail
  generalize w2.alloc (.cells #[.int .i64 cch, .int .u64 ep, .slice ua ns.length uc, .bool fr, .int .i64 jn] 25) = W at c0b c2b c3b HNOW HK3 ⊢
  clear c0 c1 c2 c3 e0 e1 e2 e3 e4
  obtain ⟨n0, n1, n2, n3, n4⟩ := cells5 HNOW.out
  have HKc := Lib.hid (Kept.refl NoB W)
  go_region_held3 (fun w' => w'.cell? ⟨w.heap.size, 0, none⟩ = some (.int .i64 1) ∧ w'.cell? ⟨w.heap.size, 3, none⟩ = some (.int .i64 nd) ∧ w'.cell? ⟨w2.heap.size, 0, none⟩ = some (.int .i64 cch) ∧ w'.cell? ⟨w2.heap.size, 1, none⟩ = some (.int .u64 ep) ∧ w'.cell? ⟨w2.heap.size, 2, none⟩ = some (.slice ua ns.length uc) ∧ w'.cell? ⟨w2.heap.size, 3, none⟩ = some (.bool fr) ∧ w'.cell? ⟨w2.heap.size, 4, none⟩ = some (.int .i64 jn))
    (first
      | exact ⟨cell_drew c0b, cell_drew c3b, cell_drew n0, cell_drew n1, cell_drew n2, cell_drew n3, cell_drew n4⟩
      | exact ⟨HKc.out.cell (p := ⟨w.heap.size, 0, none⟩) (fun h => h) c0b, HKc.out.cell (p := ⟨w.heap.size, 3, none⟩) (fun h => h) c3b, HKc.out.cell (p := ⟨w2.heap.size, 0, none⟩) (fun h => h) n0, HKc.out.cell (p := ⟨w2.heap.size, 1, none⟩) (fun h => h) n1, HKc.out.cell (p := ⟨w2.heap.size, 2, none⟩) (fun h => h) n2, HKc.out.cell (p := ⟨w2.heap.size, 3, none⟩) (fun h => h) n3, HKc.out.cell (p := ⟨w2.heap.size, 4, none⟩) (fun h => h) n4⟩
      | go_keep)
    (first
      | (go_at_call 38; refine (HRU.out _).mono ?_; rintro e w4 ⟨rfl, hk4⟩; replace HKc := Lib.hid (HKc.out.drew.trans hk4 (fun _ _ h => h)); clear hk4)
      | (go_at_call 57; refine (HC.out _ (HK3.out.trans HKc.out (fun _ _ h => h))).mono ?_; rintro e w5 ⟨rfl, hk5⟩; replace HKc := Lib.hid (HKc.out.trans hk5 (fun _ _ h => h)); clear hk5))
  all_goals
    have HKF := Lib.hid (HK3.out.trans HKc.out (fun _ _ h => h))
    have m1 := HKc.out.cell (p := ⟨w2.heap.size, 1, none⟩) (fun h => h) n1
    clear c0b c2b c3b n0 n1 n2 n3 n4
    by_cases h0 : r = 0
    · subst h0
      by_cases ht : ep = topE
      · have HE : Hid (endE 0 ep = 9) := Lib.hid (by unfold endE; rw [if_neg (by decide), if_pos ht])
        have htb : ((ep : Int) == 18446744073709551615) = true := by rw [ht]; rfl
        clear ht
        go_wp2
        go_ret
        exact ⟨(by rw [HE.out] <;> rfl), HKF.out⟩
      · have HE : Hid (endE 0 ep = 0) := Lib.hid (by unfold endE; rw [if_neg (by decide), if_neg ht])
        have htb : ((ep : Int) == 18446744073709551615) = false := by
          have : ep ≠ 18446744073709551615 := ht
          simpa using this
        clear ht
        go_wp2
        go_ret
        exact ⟨(by rw [HE.out] <;> rfl), HKF.out⟩
    · have HE : Hid (endE r ep = r) := Lib.hid (by unfold endE; rw [if_pos h0])
      have h0b : ((r : Int) != 0) = true := by simpa using h0
      clear h0
      go_wp2
      go_ret
      exact ⟨(by rw [HE.out] <;> rfl), HKF.out⟩
set_option maxRecDepth 100000 in
set_option maxHeartbeats 4000000 in
theorem Can_2 (v : Value) (l : List Cf) (ch : Nat) (ep nd : Int) (F : Nat → Prop) (w : World) (h : CfsAt w F v l) (hA : AllC l) (hx : Chk 2 ch ep nd 0) (hep : 0 ≤ ep) (hch : ch < l.length) (he : ep = (nthC l ch).ep) :
    Calls Tryd.prog 37 #[v, .agg #[.int .i64 2, .int .i64 ch, .int .u64 ep, .int .i64 nd]] w (IntE (endE (canK l (nthC l ch) 2 nd) ep) w) := by
  obtain ⟨a, cap, rfl, _⟩ := id h
  have hl : l.length ≤ 9223372036854775807 := by have := h.len; unfold maxLen at this; omega
  have HA : Hid (∀ w', Kept NoB w w' → _) := Lib.hid (fun w' (hk : Kept NoB w w') => All_yes _ l F w' (h.kept hk (fun _ _ _ h => h)) hA)
  have HX : Hid (∀ w, Calls Tryd.prog 56 #[.agg #[.int .i64 2, .int .i64 ch, .int .u64 ep, .int .i64 nd]] w fun e w' => e = .returned (.int .i64 0) ∧ Kept NoB w w') :=
    Lib.hid (fun w => (Check_any 2 ch ep nd w hep).mono (by rintro e w' ⟨y, hy, rfl, hk⟩; exact ⟨by rw [hy.one hx], hk⟩))
  have HRU := Lib.hid (fun w => rule2 w)
  have hfl := fun (f g : FuncId) (w : World) => rule_fld f g w
  have H := Lib.hid h
  obtain ⟨b, o, rfl, _, _, u, e0, e1, e2, e3, e4, hns, hbd⟩ := h.at_ hch
  obtain ⟨ua, uc, rfl, _⟩ := id hns
  have hcv := cf_eta _ _ _ _ hns hbd
  have hn1 : 1 ≤ (nthC l ch).ns.length := (hA.2.2 ch hch).1.2.2.2.1
  have HC : Hid (∀ w', Kept NoB w w' → _) := Lib.hid (fun w' (hk : Kept NoB w w') => canAppend_any (.slice (some ⟨b, o, none⟩) l.length cap) _ l (nthC l ch) nd F F w' (H.out.kept hk (fun _ _ _ h => h)) (hcv.kept hk (fun _ _ _ h => h)))
  obtain ⟨r, hr⟩ : ∃ r, r = canK l (nthC l ch) 2 nd := ⟨_, rfl⟩
  rw [← hr] at HC ⊢
  obtain ⟨c, hc⟩ : ∃ c, c = nthC l ch := ⟨_, rfl⟩
  rw [← hc] at e0 e1 e2 e3 e4 he HC
  obtain ⟨cch, cep, ns, fr, jn⟩ := c
  simp only at e0 e1 e2 e3 e4 he HC
  subst he
  have hk1 : (ch : Int) < (l.length : Int) := by omega
  have hk0 : (0 : Int) ≤ (ch : Int) := by omega
  have hge : decide ((l.length : Int) ≤ (ch : Int)) = false := decide_eq_false (by omega)
  have HB := Lib.hid (heap_alloc_new w (.cells #[.int .i64 2, .int .i64 (ch : Int), .int .u64 ep, .int .i64 nd] 56))
  have HK := Lib.hid ((Kept.refl NoB w).alloc (.cells #[.int .i64 2, .int .i64 (ch : Int), .int .u64 ep, .int .i64 nd] 56))
  clear hA hx h hcv hns hbd hr hc hn1 hch
  have E := Lib.hid (And.intro e0 (And.intro e1 (And.intro e2 (And.intro e3 e4))))
  clear e0 e1 e2 e3 e4
  go_enter Tryd.func37, Tryd.ntmps37
  go_wp2_with fail
  refine (HA.out _ HK.out).mono ?_
  rintro e w1 ⟨rfl, hk⟩
  have HK1 := Lib.hid (HK.out.trans hk (fun _ _ h => h))
  have HB1 := Lib.hid (hk.heap (fun h => h) HB.out)
  obtain ⟨c0, c1, c2, c3⟩ := cells4c HB1.out
  clear hk
  go_wp2_with fail
  refine (HX.out _).mono ?_
  rintro e w2 ⟨rfl, hk⟩
  have HK2 := Lib.hid (HK1.out.trans hk (fun _ _ h => h))
  have HB2 := Lib.hid (hk.heap (fun h => h) HB1.out)
  clear hk c0 c1 c2 c3
  obtain ⟨c0, c1, c2, c3⟩ := cells4c HB2.out
  obtain ⟨g0, g1, g2, g3, g4⟩ := E.out
  have e0 := HK2.out.cell (p := ⟨b, o + ch * 5, none⟩) (fun h => h) g0
  have e1 := HK2.out.cell (p := ⟨b, o + ch * 5 + 1, none⟩) (fun h => h) g1
  have e2 := HK2.out.cell (p := ⟨b, o + ch * 5 + 2, none⟩) (fun h => h) g2
  have e3 := HK2.out.cell (p := ⟨b, o + ch * 5 + 3, none⟩) (fun h => h) g3
  have e4 := HK2.out.cell (p := ⟨b, o + ch * 5 + 4, none⟩) (fun h => h) g4
  have hlt2 := heap_lt HB2.out
  have c0b := cell_alloc c0 (.cells #[.int .i64 cch, .int .u64 ep, .slice ua ns.length uc, .bool fr, .int .i64 jn] 25)
  have c2b := cell_alloc c2 (.cells #[.int .i64 cch, .int .u64 ep, .slice ua ns.length uc, .bool fr, .int .i64 jn] 25)
  have c3b := cell_alloc c3 (.cells #[.int .i64 cch, .int .u64 ep, .slice ua ns.length uc, .bool fr, .int .i64 jn] 25)
  have hnow := heap_alloc_new w2 (.cells #[.int .i64 cch, .int .u64 ep, .slice ua ns.length uc, .bool fr, .int .i64 jn] 25)
  have HK3 := Lib.hid (HK2.out.alloc (.cells #[.int .i64 cch, .int .u64 ep, .slice ua ns.length uc, .bool fr, .int .i64 jn] 25))
  have HNOW := Lib.hid hnow
  clear g0 g1 g2 g3 g4 hnow
  go_wp2_with fail
  generalize w2.alloc (.cells #[.int .i64 cch, .int .u64 ep, .slice ua ns.length uc, .bool fr, .int .i64 jn] 25) = W at c0b c2b c3b HNOW HK3 ⊢
  clear c0 c1 c2 c3 e0 e1 e2 e3 e4
  obtain ⟨n0, n1, n2, n3, n4⟩ := cells5 HNOW.out
  have HKc := Lib.hid (Kept.refl NoB W)
  go_region_held3 (fun w' => w'.cell? ⟨w.heap.size, 0, none⟩ = some (.int .i64 2) ∧ w'.cell? ⟨w.heap.size, 3, none⟩ = some (.int .i64 nd) ∧ w'.cell? ⟨w2.heap.size, 0, none⟩ = some (.int .i64 cch) ∧ w'.cell? ⟨w2.heap.size, 1, none⟩ = some (.int .u64 ep) ∧ w'.cell? ⟨w2.heap.size, 2, none⟩ = some (.slice ua ns.length uc) ∧ w'.cell? ⟨w2.heap.size, 3, none⟩ = some (.bool fr) ∧ w'.cell? ⟨w2.heap.size, 4, none⟩ = some (.int .i64 jn))
    (first
      | exact ⟨cell_drew c0b, cell_drew c3b, cell_drew n0, cell_drew n1, cell_drew n2, cell_drew n3, cell_drew n4⟩
      | exact ⟨HKc.out.cell (p := ⟨w.heap.size, 0, none⟩) (fun h => h) c0b, HKc.out.cell (p := ⟨w.heap.size, 3, none⟩) (fun h => h) c3b, HKc.out.cell (p := ⟨w2.heap.size, 0, none⟩) (fun h => h) n0, HKc.out.cell (p := ⟨w2.heap.size, 1, none⟩) (fun h => h) n1, HKc.out.cell (p := ⟨w2.heap.size, 2, none⟩) (fun h => h) n2, HKc.out.cell (p := ⟨w2.heap.size, 3, none⟩) (fun h => h) n3, HKc.out.cell (p := ⟨w2.heap.size, 4, none⟩) (fun h => h) n4⟩
      | go_keep)
    (first
      | (go_at_call 38; refine (HRU.out _).mono ?_; rintro e w4 ⟨rfl, hk4⟩; replace HKc := Lib.hid (HKc.out.drew.trans hk4 (fun _ _ h => h)); clear hk4)
      | (go_at_call 59; refine (HC.out _ (HK3.out.trans HKc.out (fun _ _ h => h))).mono ?_; rintro e w5 ⟨rfl, hk5⟩; replace HKc := Lib.hid (HKc.out.trans hk5 (fun _ _ h => h)); clear hk5))
  all_goals
    have HKF := Lib.hid (HK3.out.trans HKc.out (fun _ _ h => h))
    have m1 := HKc.out.cell (p := ⟨w2.heap.size, 1, none⟩) (fun h => h) n1
    clear c0b c2b c3b n0 n1 n2 n3 n4
    by_cases h0 : r = 0
    · subst h0
      by_cases ht : ep = topE
      · have HE : Hid (endE 0 ep = 9) := Lib.hid (by unfold endE; rw [if_neg (by decide), if_pos ht])
        have htb : ((ep : Int) == 18446744073709551615) = true := by rw [ht]; rfl
        clear ht
        go_wp2
        go_ret
        exact ⟨(by rw [HE.out] <;> rfl), HKF.out⟩
      · have HE : Hid (endE 0 ep = 0) := Lib.hid (by unfold endE; rw [if_neg (by decide), if_neg ht])
        have htb : ((ep : Int) == 18446744073709551615) = false := by
          have : ep ≠ 18446744073709551615 := ht
          simpa using this
        clear ht
        go_wp2
        go_ret
        exact ⟨(by rw [HE.out] <;> rfl), HKF.out⟩
    · have HE : Hid (endE r ep = r) := Lib.hid (by unfold endE; rw [if_pos h0])
      have h0b : ((r : Int) != 0) = true := by simpa using h0
      clear h0
      go_wp2
      go_ret
      exact ⟨(by rw [HE.out] <;> rfl), HKF.out⟩
set_option maxRecDepth 100000 in
set_option maxHeartbeats 4000000 in
theorem Can_3 (v : Value) (l : List Cf) (ch : Nat) (ep nd : Int) (F : Nat → Prop) (w : World) (h : CfsAt w F v l) (hA : AllC l) (hx : Chk 3 ch ep nd 0) (hep : 0 ≤ ep) (hch : ch < l.length) (he : ep = (nthC l ch).ep) :
    Calls Tryd.prog 37 #[v, .agg #[.int .i64 3, .int .i64 ch, .int .u64 ep, .int .i64 nd]] w (IntE (endE (canK l (nthC l ch) 3 nd) ep) w) := by
  obtain ⟨a, cap, rfl, _⟩ := id h
  have hl : l.length ≤ 9223372036854775807 := by have := h.len; unfold maxLen at this; omega
  have HA : Hid (∀ w', Kept NoB w w' → _) := Lib.hid (fun w' (hk : Kept NoB w w') => All_yes _ l F w' (h.kept hk (fun _ _ _ h => h)) hA)
  have HX : Hid (∀ w, Calls Tryd.prog 56 #[.agg #[.int .i64 3, .int .i64 ch, .int .u64 ep, .int .i64 nd]] w fun e w' => e = .returned (.int .i64 0) ∧ Kept NoB w w') :=
    Lib.hid (fun w => (Check_any 3 ch ep nd w hep).mono (by rintro e w' ⟨y, hy, rfl, hk⟩; exact ⟨by rw [hy.one hx], hk⟩))
  have HRU := Lib.hid (fun w => rule3 w)
  have hfl := fun (f g : FuncId) (w : World) => rule_fld f g w
  have H := Lib.hid h
  obtain ⟨b, o, rfl, _, _, u, e0, e1, e2, e3, e4, hns, hbd⟩ := h.at_ hch
  obtain ⟨ua, uc, rfl, _⟩ := id hns
  have hcv := cf_eta _ _ _ _ hns hbd
  have hn1 : 1 ≤ (nthC l ch).ns.length := (hA.2.2 ch hch).1.2.2.2.1
  have HC : Hid (∀ w', Kept NoB w w' → _) := Lib.hid (fun w' (hk : Kept NoB w w') => canPromote_any (.slice (some ⟨b, o, none⟩) l.length cap) _ l (nthC l ch) nd F w' (hcv.kept hk (fun _ _ _ h => h)))
  obtain ⟨r, hr⟩ : ∃ r, r = canK l (nthC l ch) 3 nd := ⟨_, rfl⟩
  rw [← hr] at HC ⊢
  obtain ⟨c, hc⟩ : ∃ c, c = nthC l ch := ⟨_, rfl⟩
  rw [← hc] at e0 e1 e2 e3 e4 he HC
  obtain ⟨cch, cep, ns, fr, jn⟩ := c
  simp only at e0 e1 e2 e3 e4 he HC
  subst he
  have hk1 : (ch : Int) < (l.length : Int) := by omega
  have hk0 : (0 : Int) ≤ (ch : Int) := by omega
  have hge : decide ((l.length : Int) ≤ (ch : Int)) = false := decide_eq_false (by omega)
  have HB := Lib.hid (heap_alloc_new w (.cells #[.int .i64 3, .int .i64 (ch : Int), .int .u64 ep, .int .i64 nd] 56))
  have HK := Lib.hid ((Kept.refl NoB w).alloc (.cells #[.int .i64 3, .int .i64 (ch : Int), .int .u64 ep, .int .i64 nd] 56))
  clear hA hx h hcv hns hbd hr hc hn1 hch
  have E := Lib.hid (And.intro e0 (And.intro e1 (And.intro e2 (And.intro e3 e4))))
  clear e0 e1 e2 e3 e4
  go_enter Tryd.func37, Tryd.ntmps37
  go_wp2_with fail
  refine (HA.out _ HK.out).mono ?_
  rintro e w1 ⟨rfl, hk⟩
  have HK1 := Lib.hid (HK.out.trans hk (fun _ _ h => h))
  have HB1 := Lib.hid (hk.heap (fun h => h) HB.out)
  obtain ⟨c0, c1, c2, c3⟩ := cells4c HB1.out
  clear hk
  go_wp2_with fail
  refine (HX.out _).mono ?_
  rintro e w2 ⟨rfl, hk⟩
  have HK2 := Lib.hid (HK1.out.trans hk (fun _ _ h => h))
  have HB2 := Lib.hid (hk.heap (fun h => h) HB1.out)
  clear hk c0 c1 c2 c3
  obtain ⟨c0, c1, c2, c3⟩ := cells4c HB2.out
  obtain ⟨g0, g1, g2, g3, g4⟩ := E.out
  have e0 := HK2.out.cell (p := ⟨b, o + ch * 5, none⟩) (fun h => h) g0
  have e1 := HK2.out.cell (p := ⟨b, o + ch * 5 + 1, none⟩) (fun h => h) g1
  have e2 := HK2.out.cell (p := ⟨b, o + ch * 5 + 2, none⟩) (fun h => h) g2
  have e3 := HK2.out.cell (p := ⟨b, o + ch * 5 + 3, none⟩) (fun h => h) g3
  have e4 := HK2.out.cell (p := ⟨b, o + ch * 5 + 4, none⟩) (fun h => h) g4
  have hlt2 := heap_lt HB2.out
  have c0b := cell_alloc c0 (.cells #[.int .i64 cch, .int .u64 ep, .slice ua ns.length uc, .bool fr, .int .i64 jn] 25)
  have c2b := cell_alloc c2 (.cells #[.int .i64 cch, .int .u64 ep, .slice ua ns.length uc, .bool fr, .int .i64 jn] 25)
  have c3b := cell_alloc c3 (.cells #[.int .i64 cch, .int .u64 ep, .slice ua ns.length uc, .bool fr, .int .i64 jn] 25)
  have hnow := heap_alloc_new w2 (.cells #[.int .i64 cch, .int .u64 ep, .slice ua ns.length uc, .bool fr, .int .i64 jn] 25)
  have HK3 := Lib.hid (HK2.out.alloc (.cells #[.int .i64 cch, .int .u64 ep, .slice ua ns.length uc, .bool fr, .int .i64 jn] 25))
  have HNOW := Lib.hid hnow
  clear g0 g1 g2 g3 g4 hnow
  go_wp2_with fail
  generalize w2.alloc (.cells #[.int .i64 cch, .int .u64 ep, .slice ua ns.length uc, .bool fr, .int .i64 jn] 25) = W at c0b c2b c3b HNOW HK3 ⊢
  clear c0 c1 c2 c3 e0 e1 e2 e3 e4
  obtain ⟨n0, n1, n2, n3, n4⟩ := cells5 HNOW.out
  have HKc := Lib.hid (Kept.refl NoB W)
  go_region_held3 (fun w' => w'.cell? ⟨w.heap.size, 0, none⟩ = some (.int .i64 3) ∧ w'.cell? ⟨w.heap.size, 3, none⟩ = some (.int .i64 nd) ∧ w'.cell? ⟨w2.heap.size, 0, none⟩ = some (.int .i64 cch) ∧ w'.cell? ⟨w2.heap.size, 1, none⟩ = some (.int .u64 ep) ∧ w'.cell? ⟨w2.heap.size, 2, none⟩ = some (.slice ua ns.length uc) ∧ w'.cell? ⟨w2.heap.size, 3, none⟩ = some (.bool fr) ∧ w'.cell? ⟨w2.heap.size, 4, none⟩ = some (.int .i64 jn))
    (first
      | exact ⟨cell_drew c0b, cell_drew c3b, cell_drew n0, cell_drew n1, cell_drew n2, cell_drew n3, cell_drew n4⟩
      | exact ⟨HKc.out.cell (p := ⟨w.heap.size, 0, none⟩) (fun h => h) c0b, HKc.out.cell (p := ⟨w.heap.size, 3, none⟩) (fun h => h) c3b, HKc.out.cell (p := ⟨w2.heap.size, 0, none⟩) (fun h => h) n0, HKc.out.cell (p := ⟨w2.heap.size, 1, none⟩) (fun h => h) n1, HKc.out.cell (p := ⟨w2.heap.size, 2, none⟩) (fun h => h) n2, HKc.out.cell (p := ⟨w2.heap.size, 3, none⟩) (fun h => h) n3, HKc.out.cell (p := ⟨w2.heap.size, 4, none⟩) (fun h => h) n4⟩
      | go_keep)
    (first
      | (go_at_call 38; refine (HRU.out _).mono ?_; rintro e w4 ⟨rfl, hk4⟩; replace HKc := Lib.hid (HKc.out.drew.trans hk4 (fun _ _ h => h)); clear hk4)
      | (go_at_call 61; refine (HC.out _ (HK3.out.trans HKc.out (fun _ _ h => h))).mono ?_; rintro e w5 ⟨rfl, hk5⟩; replace HKc := Lib.hid (HKc.out.trans hk5 (fun _ _ h => h)); clear hk5))
  all_goals
    have HKF := Lib.hid (HK3.out.trans HKc.out (fun _ _ h => h))
    have m1 := HKc.out.cell (p := ⟨w2.heap.size, 1, none⟩) (fun h => h) n1
    clear c0b c2b c3b n0 n1 n2 n3 n4
    by_cases h0 : r = 0
    · subst h0
      by_cases ht : ep = topE
      · have HE : Hid (endE 0 ep = 9) := Lib.hid (by unfold endE; rw [if_neg (by decide), if_pos ht])
        have htb : ((ep : Int) == 18446744073709551615) = true := by rw [ht]; rfl
        clear ht
        go_wp2
        go_ret
        exact ⟨(by rw [HE.out] <;> rfl), HKF.out⟩
      · have HE : Hid (endE 0 ep = 0) := Lib.hid (by unfold endE; rw [if_neg (by decide), if_neg ht])
        have htb : ((ep : Int) == 18446744073709551615) = false := by
          have : ep ≠ 18446744073709551615 := ht
          simpa using this
        clear ht
        go_wp2
        go_ret
        exact ⟨(by rw [HE.out] <;> rfl), HKF.out⟩
    · have HE : Hid (endE r ep = r) := Lib.hid (by unfold endE; rw [if_pos h0])
      have h0b : ((r : Int) != 0) = true := by simpa using h0
      clear h0
      go_wp2
      go_ret
      exact ⟨(by rw [HE.out] <;> rfl), HKF.out⟩
set_option maxRecDepth 100000 in
set_option maxHeartbeats 4000000 in
theorem Can_4 (v : Value) (l : List Cf) (ch : Nat) (ep nd : Int) (F : Nat → Prop) (w : World) (h : CfsAt w F v l) (hA : AllC l) (hx : Chk 4 ch ep nd 0) (hep : 0 ≤ ep) (hch : ch < l.length) (he : ep = (nthC l ch).ep) :
    Calls Tryd.prog 37 #[v, .agg #[.int .i64 4, .int .i64 ch, .int .u64 ep, .int .i64 nd]] w (IntE (endE (canK l (nthC l ch) 4 nd) ep) w) := by
  obtain ⟨a, cap, rfl, _⟩ := id h
  have hl : l.length ≤ 9223372036854775807 := by have := h.len; unfold maxLen at this; omega
  have HA : Hid (∀ w', Kept NoB w w' → _) := Lib.hid (fun w' (hk : Kept NoB w w') => All_yes _ l F w' (h.kept hk (fun _ _ _ h => h)) hA)
  have HX : Hid (∀ w, Calls Tryd.prog 56 #[.agg #[.int .i64 4, .int .i64 ch, .int .u64 ep, .int .i64 nd]] w fun e w' => e = .returned (.int .i64 0) ∧ Kept NoB w w') :=
    Lib.hid (fun w => (Check_any 4 ch ep nd w hep).mono (by rintro e w' ⟨y, hy, rfl, hk⟩; exact ⟨by rw [hy.one hx], hk⟩))
  have HRU := Lib.hid (fun w => rule4 w)
  have hfl := fun (f g : FuncId) (w : World) => rule_fld f g w
  have H := Lib.hid h
  obtain ⟨b, o, rfl, _, _, u, e0, e1, e2, e3, e4, hns, hbd⟩ := h.at_ hch
  obtain ⟨ua, uc, rfl, _⟩ := id hns
  have hcv := cf_eta _ _ _ _ hns hbd
  have hn1 : 1 ≤ (nthC l ch).ns.length := (hA.2.2 ch hch).1.2.2.2.1
  have HC : Hid (∀ w', Kept NoB w w' → _) := Lib.hid (fun w' (hk : Kept NoB w w') => canSettle_any (.slice (some ⟨b, o, none⟩) l.length cap) _ l (nthC l ch) nd F w' (hcv.kept hk (fun _ _ _ h => h)) hn1)
  obtain ⟨r, hr⟩ : ∃ r, r = canK l (nthC l ch) 4 nd := ⟨_, rfl⟩
  rw [← hr] at HC ⊢
  obtain ⟨c, hc⟩ : ∃ c, c = nthC l ch := ⟨_, rfl⟩
  rw [← hc] at e0 e1 e2 e3 e4 he HC
  obtain ⟨cch, cep, ns, fr, jn⟩ := c
  simp only at e0 e1 e2 e3 e4 he HC
  subst he
  have hk1 : (ch : Int) < (l.length : Int) := by omega
  have hk0 : (0 : Int) ≤ (ch : Int) := by omega
  have hge : decide ((l.length : Int) ≤ (ch : Int)) = false := decide_eq_false (by omega)
  have HB := Lib.hid (heap_alloc_new w (.cells #[.int .i64 4, .int .i64 (ch : Int), .int .u64 ep, .int .i64 nd] 56))
  have HK := Lib.hid ((Kept.refl NoB w).alloc (.cells #[.int .i64 4, .int .i64 (ch : Int), .int .u64 ep, .int .i64 nd] 56))
  clear hA hx h hcv hns hbd hr hc hn1 hch
  have E := Lib.hid (And.intro e0 (And.intro e1 (And.intro e2 (And.intro e3 e4))))
  clear e0 e1 e2 e3 e4
  go_enter Tryd.func37, Tryd.ntmps37
  go_wp2_with fail
  refine (HA.out _ HK.out).mono ?_
  rintro e w1 ⟨rfl, hk⟩
  have HK1 := Lib.hid (HK.out.trans hk (fun _ _ h => h))
  have HB1 := Lib.hid (hk.heap (fun h => h) HB.out)
  obtain ⟨c0, c1, c2, c3⟩ := cells4c HB1.out
  clear hk
  go_wp2_with fail
  refine (HX.out _).mono ?_
  rintro e w2 ⟨rfl, hk⟩
  have HK2 := Lib.hid (HK1.out.trans hk (fun _ _ h => h))
  have HB2 := Lib.hid (hk.heap (fun h => h) HB1.out)
  clear hk c0 c1 c2 c3
  obtain ⟨c0, c1, c2, c3⟩ := cells4c HB2.out
  obtain ⟨g0, g1, g2, g3, g4⟩ := E.out
  have e0 := HK2.out.cell (p := ⟨b, o + ch * 5, none⟩) (fun h => h) g0
  have e1 := HK2.out.cell (p := ⟨b, o + ch * 5 + 1, none⟩) (fun h => h) g1
  have e2 := HK2.out.cell (p := ⟨b, o + ch * 5 + 2, none⟩) (fun h => h) g2
  have e3 := HK2.out.cell (p := ⟨b, o + ch * 5 + 3, none⟩) (fun h => h) g3
  have e4 := HK2.out.cell (p := ⟨b, o + ch * 5 + 4, none⟩) (fun h => h) g4
  have hlt2 := heap_lt HB2.out
  have c0b := cell_alloc c0 (.cells #[.int .i64 cch, .int .u64 ep, .slice ua ns.length uc, .bool fr, .int .i64 jn] 25)
  have c2b := cell_alloc c2 (.cells #[.int .i64 cch, .int .u64 ep, .slice ua ns.length uc, .bool fr, .int .i64 jn] 25)
  have c3b := cell_alloc c3 (.cells #[.int .i64 cch, .int .u64 ep, .slice ua ns.length uc, .bool fr, .int .i64 jn] 25)
  have hnow := heap_alloc_new w2 (.cells #[.int .i64 cch, .int .u64 ep, .slice ua ns.length uc, .bool fr, .int .i64 jn] 25)
  have HK3 := Lib.hid (HK2.out.alloc (.cells #[.int .i64 cch, .int .u64 ep, .slice ua ns.length uc, .bool fr, .int .i64 jn] 25))
  have HNOW := Lib.hid hnow
  clear g0 g1 g2 g3 g4 hnow
  go_wp2_with fail
  generalize w2.alloc (.cells #[.int .i64 cch, .int .u64 ep, .slice ua ns.length uc, .bool fr, .int .i64 jn] 25) = W at c0b c2b c3b HNOW HK3 ⊢
  clear c0 c1 c2 c3 e0 e1 e2 e3 e4
  obtain ⟨n0, n1, n2, n3, n4⟩ := cells5 HNOW.out
  have HKc := Lib.hid (Kept.refl NoB W)
  go_region_held3 (fun w' => w'.cell? ⟨w.heap.size, 0, none⟩ = some (.int .i64 4) ∧ w'.cell? ⟨w.heap.size, 3, none⟩ = some (.int .i64 nd) ∧ w'.cell? ⟨w2.heap.size, 0, none⟩ = some (.int .i64 cch) ∧ w'.cell? ⟨w2.heap.size, 1, none⟩ = some (.int .u64 ep) ∧ w'.cell? ⟨w2.heap.size, 2, none⟩ = some (.slice ua ns.length uc) ∧ w'.cell? ⟨w2.heap.size, 3, none⟩ = some (.bool fr) ∧ w'.cell? ⟨w2.heap.size, 4, none⟩ = some (.int .i64 jn))
    (first
      | exact ⟨cell_drew c0b, cell_drew c3b, cell_drew n0, cell_drew n1, cell_drew n2, cell_drew n3, cell_drew n4⟩
      | exact ⟨HKc.out.cell (p := ⟨w.heap.size, 0, none⟩) (fun h => h) c0b, HKc.out.cell (p := ⟨w.heap.size, 3, none⟩) (fun h => h) c3b, HKc.out.cell (p := ⟨w2.heap.size, 0, none⟩) (fun h => h) n0, HKc.out.cell (p := ⟨w2.heap.size, 1, none⟩) (fun h => h) n1, HKc.out.cell (p := ⟨w2.heap.size, 2, none⟩) (fun h => h) n2, HKc.out.cell (p := ⟨w2.heap.size, 3, none⟩) (fun h => h) n3, HKc.out.cell (p := ⟨w2.heap.size, 4, none⟩) (fun h => h) n4⟩
      | go_keep)
    (first
      | (go_at_call 38; refine (HRU.out _).mono ?_; rintro e w4 ⟨rfl, hk4⟩; replace HKc := Lib.hid (HKc.out.drew.trans hk4 (fun _ _ h => h)); clear hk4)
      | (go_at_call 63; refine (HC.out _ (HK3.out.trans HKc.out (fun _ _ h => h))).mono ?_; rintro e w5 ⟨rfl, hk5⟩; replace HKc := Lib.hid (HKc.out.trans hk5 (fun _ _ h => h)); clear hk5))
  all_goals
    have HKF := Lib.hid (HK3.out.trans HKc.out (fun _ _ h => h))
    have m1 := HKc.out.cell (p := ⟨w2.heap.size, 1, none⟩) (fun h => h) n1
    clear c0b c2b c3b n0 n1 n2 n3 n4
    by_cases h0 : r = 0
    · subst h0
      by_cases ht : ep = topE
      · have HE : Hid (endE 0 ep = 9) := Lib.hid (by unfold endE; rw [if_neg (by decide), if_pos ht])
        have htb : ((ep : Int) == 18446744073709551615) = true := by rw [ht]; rfl
        clear ht
        go_wp2
        go_ret
        exact ⟨(by rw [HE.out] <;> rfl), HKF.out⟩
      · have HE : Hid (endE 0 ep = 0) := Lib.hid (by unfold endE; rw [if_neg (by decide), if_neg ht])
        have htb : ((ep : Int) == 18446744073709551615) = false := by
          have : ep ≠ 18446744073709551615 := ht
          simpa using this
        clear ht
        go_wp2
        go_ret
        exact ⟨(by rw [HE.out] <;> rfl), HKF.out⟩
    · have HE : Hid (endE r ep = r) := Lib.hid (by unfold endE; rw [if_pos h0])
      have h0b : ((r : Int) != 0) = true := by simpa using h0
      clear h0
      go_wp2
      go_ret
      exact ⟨(by rw [HE.out] <;> rfl), HKF.out⟩
end Go.Proofs.YtbdenjmnohhhiaaDoor
