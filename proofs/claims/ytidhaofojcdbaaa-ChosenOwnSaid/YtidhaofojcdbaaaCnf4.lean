/-
  Package conf: whether a command is possible. Package conf: Can of anything. The chapter's can: without one number; each kind. The chapter's can, of each kind. The chapter's Can. The chapter's answer: what a command makes of a configuration. slices.DeleteFunc over numbers in a row of the call's own. A row of configurations, one of which is turned; the rules that turn one.
-/
import Derived.Test.YtidhaofojcdbaaaCnf3
import Derived.Deep.CutRange
import Derived.Lib.SliceRun
namespace Go.Proofs.Ytidhaofojcdbaaa
open Go.RowKit
set_option linter.unusedVariables false

/-- The last part's error. -/
def endE (r ep : Int) : Int := if r ≠ 0 then r else if ep = topE then 9 else 0
theorem All_yes (v : Value) (l : List Cf) (F : Nat → Prop) (w : World) (h : CfsAt w F v l) (hA : AllC l) : Calls Try.prog 75 #[v] w (BoolE true w) := by
  have := All_any v l F w h
  rwa [show allB l = true from decide_eq_true hA] at this
theorem All_no (v : Value) (l : List Cf) (F : Nat → Prop) (w : World) (h : CfsAt w F v l) (hA : ¬ AllC l) : Calls Try.prog 75 #[v] w (BoolE false w) := by
  have := All_any v l F w h
  rwa [show allB l = false from decide_eq_false hA] at this
theorem rule_fld (f g : FuncId) (w : World) : Sem.run Try.prog (Instr.field 166 (.agg #[fnv f, fnv g]) 0) w = .ok (fnv f) w := by kernel_rfl
theorem rule_fld1 (f g : FuncId) (w : World) : Sem.run Try.prog (Instr.field 166 (.agg #[fnv f, fnv g]) 1) w = .ok (fnv g) w := by kernel_rfl
theorem cells4c {w : World} {b : Nat} {x0 x1 x2 x3 : Value} {t : TypeId} (h : w.heap[b]? = some (.cells #[x0, x1, x2, x3] t (0, 0))) :
    w.cell? ⟨b, 0, none⟩ = some x0 ∧ w.cell? ⟨b, 1, none⟩ = some x1 ∧ w.cell? ⟨b, 2, none⟩ = some x2 ∧ w.cell? ⟨b, 3, none⟩ = some x3 :=
  ⟨cell_of_row _ _ 0 _ _ _ h, cell_of_row _ _ 1 _ _ _ h, cell_of_row _ _ 2 _ _ _ h, cell_of_row _ _ 3 _ _ _ h⟩
set_option maxRecDepth 100000 in
set_option maxHeartbeats 4000000 in
theorem Can_1 (v : Value) (l : List Cf) (ch : Nat) (ep nd : Int) (F : Nat → Prop) (w : World) (h : CfsAt w F v l) (hA : AllC l) (hx : Chk 1 ch ep nd 0) (hep : 0 ≤ ep) (hch : ch < l.length) (he : ep = (nthC l ch).ep) :
    Calls Try.prog 84 #[v, .agg #[.int .i64 1, .int .i64 ch, .int .u64 ep, .int .i64 nd]] w (IntE (endE (canK l (nthC l ch) 1 nd) ep) w) := by
  obtain ⟨a, cap, rfl, _⟩ := id h
  have hl : l.length ≤ 9223372036854775807 := by have := h.len; unfold maxLen at this; omega
  have HA : Hid (∀ w', Kept NoB w w' → _) := Lib.hid (fun w' (hk : Kept NoB w w') => All_yes _ l F w' (h.kept hk (fun _ _ _ h => h)) hA)
  have HX : Hid (∀ w, Calls Try.prog 52 #[.agg #[.int .i64 1, .int .i64 ch, .int .u64 ep, .int .i64 nd]] w fun e w' => e = .returned (.int .i64 0) ∧ Kept NoB w w') :=
    Lib.hid (fun w => (Check_any 1 ch ep nd w hep).mono (by rintro e w' ⟨y, hy, rfl, hk⟩; exact ⟨by rw [hy.one hx], hk⟩))
  have HRU := Lib.hid (fun w => rule1 w)
  have hfl := fun (f g : FuncId) (w : World) => rule_fld f g w
  have H := Lib.hid h
  obtain ⟨b, o, rfl, _, _, u, e0, e1, e2, e3, e4, hns, hbd⟩ := h.at_ hch
  obtain ⟨ua, uc, rfl, _⟩ := id hns
  have hcv := cf_eta _ _ _ _ hns hbd
  have hn1 : 1 ≤ (nthC l ch).ns.length := (hA.2.2 ch hch).1.2.2.2.1
  have HC : Hid (∀ w', Kept NoB w w' → _) := Lib.hid (fun w' (hk : Kept NoB w w') => canRemove_any (.slice (some ⟨b, o, none⟩) l.length cap) _ l (nthC l ch) nd F w' (hcv.kept hk (fun _ _ _ h => h)))
  obtain ⟨r, hr⟩ : ∃ r, r = canK l (nthC l ch) 1 nd := ⟨_, rfl⟩
  rw [← hr] at HC ⊢
  obtain ⟨c, hc⟩ : ∃ c, c = nthC l ch := ⟨_, rfl⟩
  rw [← hc] at e0 e1 e2 e3 e4 he HC
  obtain ⟨cch, cep, ns, fr, jn⟩ := c
  simp only at e0 e1 e2 e3 e4 he HC
  subst he
  have hk1 : (ch : Int) < (l.length : Int) := by omega
  have hk0 : (0 : Int) ≤ (ch : Int) := by omega
  have hge : decide ((l.length : Int) ≤ (ch : Int)) = false := decide_eq_false (by omega)
  have HB := Lib.hid (heap_alloc_new w (.cells #[.int .i64 1, .int .i64 (ch : Int), .int .u64 ep, .int .i64 nd] 39))
  have HK := Lib.hid ((Kept.refl NoB w).alloc (.cells #[.int .i64 1, .int .i64 (ch : Int), .int .u64 ep, .int .i64 nd] 39))
  clear hA hx h hcv hns hbd hr hc hn1 hch
  have E := Lib.hid (And.intro e0 (And.intro e1 (And.intro e2 (And.intro e3 e4))))
  clear e0 e1 e2 e3 e4
  go_enter Try.func84, Try.ntmps84
  go_wp2_with fail
  refine (HA.out _ HK.out).mono ?_
  rintro e w1 ⟨rfl, hk⟩
  have HK1 := Lib.hid (HK.out.trans hk (fun _ _ h => h))
  have HB1 := Lib.hid (hk.heap (fun h => h) HB.out)
  obtain ⟨c0, c1, c2, c3⟩ := cells4c HB1.out
  clear hk
  go_wp2_with fail
  refine (HX.out _).mono ?_
  rintro e w2 ⟨rfl, hk⟩
  have HK2 := Lib.hid (HK1.out.trans hk (fun _ _ h => h))
  have HB2 := Lib.hid (hk.heap (fun h => h) HB1.out)
  clear hk c0 c1 c2 c3
  obtain ⟨c0, c1, c2, c3⟩ := cells4c HB2.out
  obtain ⟨g0, g1, g2, g3, g4⟩ := E.out
  have e0 := HK2.out.cell (p := ⟨b, o + ch * 5, none⟩) (fun h => h) g0
  have e1 := HK2.out.cell (p := ⟨b, o + ch * 5 + 1, none⟩) (fun h => h) g1
  have e2 := HK2.out.cell (p := ⟨b, o + ch * 5 + 2, none⟩) (fun h => h) g2
  have e3 := HK2.out.cell (p := ⟨b, o + ch * 5 + 3, none⟩) (fun h => h) g3
  have e4 := HK2.out.cell (p := ⟨b, o + ch * 5 + 4, none⟩) (fun h => h) g4
  have hlt2 := heap_lt HB2.out
  have c0b := cell_alloc c0 (.cells #[.int .i64 cch, .int .u64 ep, .slice ua ns.length uc, .bool fr, .int .i64 jn] 84)
  have c2b := cell_alloc c2 (.cells #[.int .i64 cch, .int .u64 ep, .slice ua ns.length uc, .bool fr, .int .i64 jn] 84)
  have c3b := cell_alloc c3 (.cells #[.int .i64 cch, .int .u64 ep, .slice ua ns.length uc, .bool fr, .int .i64 jn] 84)
  have hnow := heap_alloc_new w2 (.cells #[.int .i64 cch, .int .u64 ep, .slice ua ns.length uc, .bool fr, .int .i64 jn] 84)
  have HK3 := Lib.hid (HK2.out.alloc (.cells #[.int .i64 cch, .int .u64 ep, .slice ua ns.length uc, .bool fr, .int .i64 jn] 84))
  have HNOW := Lib.hid hnow
  clear g0 g1 g2 g3 g4 hnow
  go_wp2_with fail
  generalize w2.alloc (.cells #[.int .i64 cch, .int .u64 ep, .slice ua ns.length uc, .bool fr, .int .i64 jn] 84) = W at c0b c2b c3b HNOW HK3 ⊢
  clear c0 c1 c2 c3 e0 e1 e2 e3 e4
  obtain ⟨n0, n1, n2, n3, n4⟩ := cells5 HNOW.out
  have HKc := Lib.hid (Kept.refl NoB W)
  go_region_held3 (fun w' => w'.cell? ⟨w.heap.size, 0, none⟩ = some (.int .i64 1) ∧ w'.cell? ⟨w.heap.size, 3, none⟩ = some (.int .i64 nd) ∧ w'.cell? ⟨w2.heap.size, 0, none⟩ = some (.int .i64 cch) ∧ w'.cell? ⟨w2.heap.size, 1, none⟩ = some (.int .u64 ep) ∧ w'.cell? ⟨w2.heap.size, 2, none⟩ = some (.slice ua ns.length uc) ∧ w'.cell? ⟨w2.heap.size, 3, none⟩ = some (.bool fr) ∧ w'.cell? ⟨w2.heap.size, 4, none⟩ = some (.int .i64 jn))
    (first
      | exact ⟨cell_drew c0b, cell_drew c3b, cell_drew n0, cell_drew n1, cell_drew n2, cell_drew n3, cell_drew n4⟩
      | exact ⟨HKc.out.cell (p := ⟨w.heap.size, 0, none⟩) (fun h => h) c0b, HKc.out.cell (p := ⟨w.heap.size, 3, none⟩) (fun h => h) c3b, HKc.out.cell (p := ⟨w2.heap.size, 0, none⟩) (fun h => h) n0, HKc.out.cell (p := ⟨w2.heap.size, 1, none⟩) (fun h => h) n1, HKc.out.cell (p := ⟨w2.heap.size, 2, none⟩) (fun h => h) n2, HKc.out.cell (p := ⟨w2.heap.size, 3, none⟩) (fun h => h) n3, HKc.out.cell (p := ⟨w2.heap.size, 4, none⟩) (fun h => h) n4⟩
      | go_keep)
    (first
      | (go_at_call 117; refine (HRU.out _).mono ?_; rintro e w4 ⟨rfl, hk4⟩; replace HKc := Lib.hid (HKc.out.drew.trans hk4 (fun _ _ h => h)); clear hk4)
      | (go_at_call 139; refine (HC.out _ (HK3.out.trans HKc.out (fun _ _ h => h))).mono ?_; rintro e w5 ⟨rfl, hk5⟩; replace HKc := Lib.hid (HKc.out.trans hk5 (fun _ _ h => h)); clear hk5))
  all_goals
    have HKF := Lib.hid (HK3.out.trans HKc.out (fun _ _ h => h))
    have m1 := HKc.out.cell (p := ⟨w2.heap.size, 1, none⟩) (fun h => h) n1
    clear c0b c2b c3b n0 n1 n2 n3 n4
    by_cases h0 : r = 0
    · subst h0
      by_cases ht : ep = topE
      · have HE : Hid (endE 0 ep = 9) := Lib.hid (by unfold endE; rw [if_neg (by decide), if_pos ht])
        have htb : ((ep : Int) == 18446744073709551615) = true := by rw [ht]; rfl
        clear ht
        go_wp2
        go_ret
        exact ⟨(by rw [HE.out] <;> rfl), HKF.out⟩
      · have HE : Hid (endE 0 ep = 0) := Lib.hid (by unfold endE; rw [if_neg (by decide), if_neg ht])
        have htb : ((ep : Int) == 18446744073709551615) = false := by
          have : ep ≠ 18446744073709551615 := ht
          simpa using this
        clear ht
        go_wp2
        go_ret
        exact ⟨(by rw [HE.out] <;> rfl), HKF.out⟩
    · have HE : Hid (endE r ep = r) := Lib.hid (by unfold endE; rw [if_pos h0])
      have h0b : ((r : Int) != 0) = true := by simpa using h0
      clear h0
      go_wp2
      go_ret
      exact ⟨(by rw [HE.out] <;> rfl), HKF.out⟩
set_option maxRecDepth 100000 in
set_option maxHeartbeats 4000000 in
theorem Can_2 (v : Value) (l : List Cf) (ch : Nat) (ep nd : Int) (F : Nat → Prop) (w : World) (h : CfsAt w F v l) (hA : AllC l) (hx : Chk 2 ch ep nd 0) (hep : 0 ≤ ep) (hch : ch < l.length) (he : ep = (nthC l ch).ep) :
    Calls Try.prog 84 #[v, .agg #[.int .i64 2, .int .i64 ch, .int .u64 ep, .int .i64 nd]] w (IntE (endE (canK l (nthC l ch) 2 nd) ep) w) := by
  obtain ⟨a, cap, rfl, _⟩ := id h
  have hl : l.length ≤ 9223372036854775807 := by have := h.len; unfold maxLen at this; omega
  have HA : Hid (∀ w', Kept NoB w w' → _) := Lib.hid (fun w' (hk : Kept NoB w w') => All_yes _ l F w' (h.kept hk (fun _ _ _ h => h)) hA)
  have HX : Hid (∀ w, Calls Try.prog 52 #[.agg #[.int .i64 2, .int .i64 ch, .int .u64 ep, .int .i64 nd]] w fun e w' => e = .returned (.int .i64 0) ∧ Kept NoB w w') :=
    Lib.hid (fun w => (Check_any 2 ch ep nd w hep).mono (by rintro e w' ⟨y, hy, rfl, hk⟩; exact ⟨by rw [hy.one hx], hk⟩))
  have HRU := Lib.hid (fun w => rule2 w)
  have hfl := fun (f g : FuncId) (w : World) => rule_fld f g w
  have H := Lib.hid h
  obtain ⟨b, o, rfl, _, _, u, e0, e1, e2, e3, e4, hns, hbd⟩ := h.at_ hch
  obtain ⟨ua, uc, rfl, _⟩ := id hns
  have hcv := cf_eta _ _ _ _ hns hbd
  have hn1 : 1 ≤ (nthC l ch).ns.length := (hA.2.2 ch hch).1.2.2.2.1
  have HC : Hid (∀ w', Kept NoB w w' → _) := Lib.hid (fun w' (hk : Kept NoB w w') => canAppend_any (.slice (some ⟨b, o, none⟩) l.length cap) _ l (nthC l ch) nd F F w' (H.out.kept hk (fun _ _ _ h => h)) (hcv.kept hk (fun _ _ _ h => h)))
  obtain ⟨r, hr⟩ : ∃ r, r = canK l (nthC l ch) 2 nd := ⟨_, rfl⟩
  rw [← hr] at HC ⊢
  obtain ⟨c, hc⟩ : ∃ c, c = nthC l ch := ⟨_, rfl⟩
  rw [← hc] at e0 e1 e2 e3 e4 he HC
  obtain ⟨cch, cep, ns, fr, jn⟩ := c
  simp only at e0 e1 e2 e3 e4 he HC
  subst he
  have hk1 : (ch : Int) < (l.length : Int) := by omega
  have hk0 : (0 : Int) ≤ (ch : Int) := by omega
  have hge : decide ((l.length : Int) ≤ (ch : Int)) = false := decide_eq_false (by omega)
  have HB := Lib.hid (heap_alloc_new w (.cells #[.int .i64 2, .int .i64 (ch : Int), .int .u64 ep, .int .i64 nd] 39))
  have HK := Lib.hid ((Kept.refl NoB w).alloc (.cells #[.int .i64 2, .int .i64 (ch : Int), .int .u64 ep, .int .i64 nd] 39))
  clear hA hx h hcv hns hbd hr hc hn1 hch
  have E := Lib.hid (And.intro e0 (And.intro e1 (And.intro e2 (And.intro e3 e4))))
  clear e0 e1 e2 e3 e4
  go_enter Try.func84, Try.ntmps84
  go_wp2_with fail
  refine (HA.out _ HK.out).mono ?_
  rintro e w1 ⟨rfl, hk⟩
  have HK1 := Lib.hid (HK.out.trans hk (fun _ _ h => h))
  have HB1 := Lib.hid (hk.heap (fun h => h) HB.out)
  obtain ⟨c0, c1, c2, c3⟩ := cells4c HB1.out
  clear hk
  go_wp2_with fail
  refine (HX.out _).mono ?_
  rintro e w2 ⟨rfl, hk⟩
  have HK2 := Lib.hid (HK1.out.trans hk (fun _ _ h => h))
  have HB2 := Lib.hid (hk.heap (fun h => h) HB1.out)
  clear hk c0 c1 c2 c3
  obtain ⟨c0, c1, c2, c3⟩ := cells4c HB2.out
  obtain ⟨g0, g1, g2, g3, g4⟩ := E.out
  have e0 := HK2.out.cell (p := ⟨b, o + ch * 5, none⟩) (fun h => h) g0
  have e1 := HK2.out.cell (p := ⟨b, o + ch * 5 + 1, none⟩) (fun h => h) g1
  have e2 := HK2.out.cell (p := ⟨b, o + ch * 5 + 2, none⟩) (fun h => h) g2
  have e3 := HK2.out.cell (p := ⟨b, o + ch * 5 + 3, none⟩) (fun h => h) g3
  have e4 := HK2.out.cell (p := ⟨b, o + ch * 5 + 4, none⟩) (fun h => h) g4
  have hlt2 := heap_lt HB2.out
  have c0b := cell_alloc c0 (.cells #[.int .i64 cch, .int .u64 ep, .slice ua ns.length uc, .bool fr, .int .i64 jn] 84)
  have c2b := cell_alloc c2 (.cells #[.int .i64 cch, .int .u64 ep, .slice ua ns.length uc, .bool fr, .int .i64 jn] 84)
  have c3b := cell_alloc c3 (.cells #[.int .i64 cch, .int .u64 ep, .slice ua ns.length uc, .bool fr, .int .i64 jn] 84)
  have hnow := heap_alloc_new w2 (.cells #[.int .i64 cch, .int .u64 ep, .slice ua ns.length uc, .bool fr, .int .i64 jn] 84)
  have HK3 := Lib.hid (HK2.out.alloc (.cells #[.int .i64 cch, .int .u64 ep, .slice ua ns.length uc, .bool fr, .int .i64 jn] 84))
  have HNOW := Lib.hid hnow
  clear g0 g1 g2 g3 g4 hnow
  go_wp2_with fail
  generalize w2.alloc (.cells #[.int .i64 cch, .int .u64 ep, .slice ua ns.length uc, .bool fr, .int .i64 jn] 84) = W at c0b c2b c3b HNOW HK3 ⊢
  clear c0 c1 c2 c3 e0 e1 e2 e3 e4
  obtain ⟨n0, n1, n2, n3, n4⟩ := cells5 HNOW.out
  have HKc := Lib.hid (Kept.refl NoB W)
  go_region_held3 (fun w' => w'.cell? ⟨w.heap.size, 0, none⟩ = some (.int .i64 2) ∧ w'.cell? ⟨w.heap.size, 3, none⟩ = some (.int .i64 nd) ∧ w'.cell? ⟨w2.heap.size, 0, none⟩ = some (.int .i64 cch) ∧ w'.cell? ⟨w2.heap.size, 1, none⟩ = some (.int .u64 ep) ∧ w'.cell? ⟨w2.heap.size, 2, none⟩ = some (.slice ua ns.length uc) ∧ w'.cell? ⟨w2.heap.size, 3, none⟩ = some (.bool fr) ∧ w'.cell? ⟨w2.heap.size, 4, none⟩ = some (.int .i64 jn))
    (first
      | exact ⟨cell_drew c0b, cell_drew c3b, cell_drew n0, cell_drew n1, cell_drew n2, cell_drew n3, cell_drew n4⟩
      | exact ⟨HKc.out.cell (p := ⟨w.heap.size, 0, none⟩) (fun h => h) c0b, HKc.out.cell (p := ⟨w.heap.size, 3, none⟩) (fun h => h) c3b, HKc.out.cell (p := ⟨w2.heap.size, 0, none⟩) (fun h => h) n0, HKc.out.cell (p := ⟨w2.heap.size, 1, none⟩) (fun h => h) n1, HKc.out.cell (p := ⟨w2.heap.size, 2, none⟩) (fun h => h) n2, HKc.out.cell (p := ⟨w2.heap.size, 3, none⟩) (fun h => h) n3, HKc.out.cell (p := ⟨w2.heap.size, 4, none⟩) (fun h => h) n4⟩
      | go_keep)
    (first
      | (go_at_call 117; refine (HRU.out _).mono ?_; rintro e w4 ⟨rfl, hk4⟩; replace HKc := Lib.hid (HKc.out.drew.trans hk4 (fun _ _ h => h)); clear hk4)
      | (go_at_call 141; refine (HC.out _ (HK3.out.trans HKc.out (fun _ _ h => h))).mono ?_; rintro e w5 ⟨rfl, hk5⟩; replace HKc := Lib.hid (HKc.out.trans hk5 (fun _ _ h => h)); clear hk5))
  all_goals
    have HKF := Lib.hid (HK3.out.trans HKc.out (fun _ _ h => h))
    have m1 := HKc.out.cell (p := ⟨w2.heap.size, 1, none⟩) (fun h => h) n1
    clear c0b c2b c3b n0 n1 n2 n3 n4
    by_cases h0 : r = 0
    · subst h0
      by_cases ht : ep = topE
      · have HE : Hid (endE 0 ep = 9) := Lib.hid (by unfold endE; rw [if_neg (by decide), if_pos ht])
        have htb : ((ep : Int) == 18446744073709551615) = true := by rw [ht]; rfl
        clear ht
        go_wp2
        go_ret
        exact ⟨(by rw [HE.out] <;> rfl), HKF.out⟩
      · have HE : Hid (endE 0 ep = 0) := Lib.hid (by unfold endE; rw [if_neg (by decide), if_neg ht])
        have htb : ((ep : Int) == 18446744073709551615) = false := by
          have : ep ≠ 18446744073709551615 := ht
          simpa using this
        clear ht
        go_wp2
        go_ret
        exact ⟨(by rw [HE.out] <;> rfl), HKF.out⟩
    · have HE : Hid (endE r ep = r) := Lib.hid (by unfold endE; rw [if_pos h0])
      have h0b : ((r : Int) != 0) = true := by simpa using h0
      clear h0
      go_wp2
      go_ret
      exact ⟨(by rw [HE.out] <;> rfl), HKF.out⟩
set_option maxRecDepth 100000 in
set_option maxHeartbeats 4000000 in
theorem Can_3 (v : Value) (l : List Cf) (ch : Nat) (ep nd : Int) (F : Nat → Prop) (w : World) (h : CfsAt w F v l) (hA : AllC l) (hx : Chk 3 ch ep nd 0) (hep : 0 ≤ ep) (hch : ch < l.length) (he : ep = (nthC l ch).ep) :
    Calls Try.prog 84 #[v, .agg #[.int .i64 3, .int .i64 ch, .int .u64 ep, .int .i64 nd]] w (IntE (endE (canK l (nthC l ch) 3 nd) ep) w) := by
  obtain ⟨a, cap, rfl, _⟩ := id h
  have hl : l.length ≤ 9223372036854775807 := by have := h.len; unfold maxLen at this; omega
  have HA : Hid (∀ w', Kept NoB w w' → _) := Lib.hid (fun w' (hk : Kept NoB w w') => All_yes _ l F w' (h.kept hk (fun _ _ _ h => h)) hA)
  have HX : Hid (∀ w, Calls Try.prog 52 #[.agg #[.int .i64 3, .int .i64 ch, .int .u64 ep, .int .i64 nd]] w fun e w' => e = .returned (.int .i64 0) ∧ Kept NoB w w') :=
    Lib.hid (fun w => (Check_any 3 ch ep nd w hep).mono (by rintro e w' ⟨y, hy, rfl, hk⟩; exact ⟨by rw [hy.one hx], hk⟩))
  have HRU := Lib.hid (fun w => rule3 w)
  have hfl := fun (f g : FuncId) (w : World) => rule_fld f g w
  have H := Lib.hid h
  obtain ⟨b, o, rfl, _, _, u, e0, e1, e2, e3, e4, hns, hbd⟩ := h.at_ hch
  obtain ⟨ua, uc, rfl, _⟩ := id hns
  have hcv := cf_eta _ _ _ _ hns hbd
  have hn1 : 1 ≤ (nthC l ch).ns.length := (hA.2.2 ch hch).1.2.2.2.1
  have HC : Hid (∀ w', Kept NoB w w' → _) := Lib.hid (fun w' (hk : Kept NoB w w') => canPromote_any (.slice (some ⟨b, o, none⟩) l.length cap) _ l (nthC l ch) nd F w' (hcv.kept hk (fun _ _ _ h => h)))
  obtain ⟨r, hr⟩ : ∃ r, r = canK l (nthC l ch) 3 nd := ⟨_, rfl⟩
  rw [← hr] at HC ⊢
  obtain ⟨c, hc⟩ : ∃ c, c = nthC l ch := ⟨_, rfl⟩
  rw [← hc] at e0 e1 e2 e3 e4 he HC
  obtain ⟨cch, cep, ns, fr, jn⟩ := c
  simp only at e0 e1 e2 e3 e4 he HC
  subst he
  have hk1 : (ch : Int) < (l.length : Int) := by omega
  have hk0 : (0 : Int) ≤ (ch : Int) := by omega
  have hge : decide ((l.length : Int) ≤ (ch : Int)) = false := decide_eq_false (by omega)
  have HB := Lib.hid (heap_alloc_new w (.cells #[.int .i64 3, .int .i64 (ch : Int), .int .u64 ep, .int .i64 nd] 39))
  have HK := Lib.hid ((Kept.refl NoB w).alloc (.cells #[.int .i64 3, .int .i64 (ch : Int), .int .u64 ep, .int .i64 nd] 39))
  clear hA hx h hcv hns hbd hr hc hn1 hch
  have E := Lib.hid (And.intro e0 (And.intro e1 (And.intro e2 (And.intro e3 e4))))
  clear e0 e1 e2 e3 e4
  go_enter Try.func84, Try.ntmps84
  go_wp2_with fail
  refine (HA.out _ HK.out).mono ?_
  rintro e w1 ⟨rfl, hk⟩
  have HK1 := Lib.hid (HK.out.trans hk (fun _ _ h => h))
  have HB1 := Lib.hid (hk.heap (fun h => h) HB.out)
  obtain ⟨c0, c1, c2, c3⟩ := cells4c HB1.out
  clear hk
  go_wp2_with fail
  refine (HX.out _).mono ?_
  rintro e w2 ⟨rfl, hk⟩
  have HK2 := Lib.hid (HK1.out.trans hk (fun _ _ h => h))
  have HB2 := Lib.hid (hk.heap (fun h => h) HB1.out)
  clear hk c0 c1 c2 c3
  obtain ⟨c0, c1, c2, c3⟩ := cells4c HB2.out
  obtain ⟨g0, g1, g2, g3, g4⟩ := E.out
  have e0 := HK2.out.cell (p := ⟨b, o + ch * 5, none⟩) (fun h => h) g0
  have e1 := HK2.out.cell (p := ⟨b, o + ch * 5 + 1, none⟩) (fun h => h) g1
  have e2 := HK2.out.cell (p := ⟨b, o + ch * 5 + 2, none⟩) (fun h => h) g2
  have e3 := HK2.out.cell (p := ⟨b, o + ch * 5 + 3, none⟩) (fun h => h) g3
  have e4 := HK2.out.cell (p := ⟨b, o + ch * 5 + 4, none⟩) (fun h => h) g4
  have hlt2 := heap_lt HB2.out
  have c0b := cell_alloc c0 (.cells #[.int .i64 cch, .int .u64 ep, .slice ua ns.length uc, .bool fr, .int .i64 jn] 84)
  have c2b := cell_alloc c2 (.cells #[.int .i64 cch, .int .u64 ep, .slice ua ns.length uc, .bool fr, .int .i64 jn] 84)
  have c3b := cell_alloc c3 (.cells #[.int .i64 cch, .int .u64 ep, .slice ua ns.length uc, .bool fr, .int .i64 jn] 84)
  have hnow := heap_alloc_new w2 (.cells #[.int .i64 cch, .int .u64 ep, .slice ua ns.length uc, .bool fr, .int .i64 jn] 84)
  have HK3 := Lib.hid (HK2.out.alloc (.cells #[.int .i64 cch, .int .u64 ep, .slice ua ns.length uc, .bool fr, .int .i64 jn] 84))
  have HNOW := Lib.hid hnow
  clear g0 g1 g2 g3 g4 hnow
  go_wp2_with fail
  generalize w2.alloc (.cells #[.int .i64 cch, .int .u64 ep, .slice ua ns.length uc, .bool fr, .int .i64 jn] 84) = W at c0b c2b c3b HNOW HK3 ⊢
  clear c0 c1 c2 c3 e0 e1 e2 e3 e4
  obtain ⟨n0, n1, n2, n3, n4⟩ := cells5 HNOW.out
  have HKc := Lib.hid (Kept.refl NoB W)
  go_region_held3 (fun w' => w'.cell? ⟨w.heap.size, 0, none⟩ = some (.int .i64 3) ∧ w'.cell? ⟨w.heap.size, 3, none⟩ = some (.int .i64 nd) ∧ w'.cell? ⟨w2.heap.size, 0, none⟩ = some (.int .i64 cch) ∧ w'.cell? ⟨w2.heap.size, 1, none⟩ = some (.int .u64 ep) ∧ w'.cell? ⟨w2.heap.size, 2, none⟩ = some (.slice ua ns.length uc) ∧ w'.cell? ⟨w2.heap.size, 3, none⟩ = some (.bool fr) ∧ w'.cell? ⟨w2.heap.size, 4, none⟩ = some (.int .i64 jn))
    (first
      | exact ⟨cell_drew c0b, cell_drew c3b, cell_drew n0, cell_drew n1, cell_drew n2, cell_drew n3, cell_drew n4⟩
      | exact ⟨HKc.out.cell (p := ⟨w.heap.size, 0, none⟩) (fun h => h) c0b, HKc.out.cell (p := ⟨w.heap.size, 3, none⟩) (fun h => h) c3b, HKc.out.cell (p := ⟨w2.heap.size, 0, none⟩) (fun h => h) n0, HKc.out.cell (p := ⟨w2.heap.size, 1, none⟩) (fun h => h) n1, HKc.out.cell (p := ⟨w2.heap.size, 2, none⟩) (fun h => h) n2, HKc.out.cell (p := ⟨w2.heap.size, 3, none⟩) (fun h => h) n3, HKc.out.cell (p := ⟨w2.heap.size, 4, none⟩) (fun h => h) n4⟩
      | go_keep)
    (first
      | (go_at_call 117; refine (HRU.out _).mono ?_; rintro e w4 ⟨rfl, hk4⟩; replace HKc := Lib.hid (HKc.out.drew.trans hk4 (fun _ _ h => h)); clear hk4)
      | (go_at_call 143; refine (HC.out _ (HK3.out.trans HKc.out (fun _ _ h => h))).mono ?_; rintro e w5 ⟨rfl, hk5⟩; replace HKc := Lib.hid (HKc.out.trans hk5 (fun _ _ h => h)); clear hk5))
  all_goals
    have HKF := Lib.hid (HK3.out.trans HKc.out (fun _ _ h => h))
    have m1 := HKc.out.cell (p := ⟨w2.heap.size, 1, none⟩) (fun h => h) n1
    clear c0b c2b c3b n0 n1 n2 n3 n4
    by_cases h0 : r = 0
    · subst h0
      by_cases ht : ep = topE
      · have HE : Hid (endE 0 ep = 9) := Lib.hid (by unfold endE; rw [if_neg (by decide), if_pos ht])
        have htb : ((ep : Int) == 18446744073709551615) = true := by rw [ht]; rfl
        clear ht
        go_wp2
        go_ret
        exact ⟨(by rw [HE.out] <;> rfl), HKF.out⟩
      · have HE : Hid (endE 0 ep = 0) := Lib.hid (by unfold endE; rw [if_neg (by decide), if_neg ht])
        have htb : ((ep : Int) == 18446744073709551615) = false := by
          have : ep ≠ 18446744073709551615 := ht
          simpa using this
        clear ht
        go_wp2
        go_ret
        exact ⟨(by rw [HE.out] <;> rfl), HKF.out⟩
    · have HE : Hid (endE r ep = r) := Lib.hid (by unfold endE; rw [if_pos h0])
      have h0b : ((r : Int) != 0) = true := by simpa using h0
      clear h0
      go_wp2
      go_ret
      exact ⟨(by rw [HE.out] <;> rfl), HKF.out⟩
set_option maxRecDepth 100000 in
set_option maxHeartbeats 4000000 in
theorem Can_4 (v : Value) (l : List Cf) (ch : Nat) (ep nd : Int) (F : Nat → Prop) (w : World) (h : CfsAt w F v l) (hA : AllC l) (hx : Chk 4 ch ep nd 0) (hep : 0 ≤ ep) (hch : ch < l.length) (he : ep = (nthC l ch).ep) :
    Calls Try.prog 84 #[v, .agg #[.int .i64 4, .int .i64 ch, .int .u64 ep, .int .i64 nd]] w (IntE (endE (canK l (nthC l ch) 4 nd) ep) w) := by
  obtain ⟨a, cap, rfl, _⟩ := id h
  have hl : l.length ≤ 9223372036854775807 := by have := h.len; unfold maxLen at this; omega
  have HA : Hid (∀ w', Kept NoB w w' → _) := Lib.hid (fun w' (hk : Kept NoB w w') => All_yes _ l F w' (h.kept hk (fun _ _ _ h => h)) hA)
  have HX : Hid (∀ w, Calls Try.prog 52 #[.agg #[.int .i64 4, .int .i64 ch, .int .u64 ep, .int .i64 nd]] w fun e w' => e = .returned (.int .i64 0) ∧ Kept NoB w w') :=
    Lib.hid (fun w => (Check_any 4 ch ep nd w hep).mono (by rintro e w' ⟨y, hy, rfl, hk⟩; exact ⟨by rw [hy.one hx], hk⟩))
  have HRU := Lib.hid (fun w => rule4 w)
  have hfl := fun (f g : FuncId) (w : World) => rule_fld f g w
  have H := Lib.hid h
  obtain ⟨b, o, rfl, _, _, u, e0, e1, e2, e3, e4, hns, hbd⟩ := h.at_ hch
  obtain ⟨ua, uc, rfl, _⟩ := id hns
  have hcv := cf_eta _ _ _ _ hns hbd
  have hn1 : 1 ≤ (nthC l ch).ns.length := (hA.2.2 ch hch).1.2.2.2.1
  have HC : Hid (∀ w', Kept NoB w w' → _) := Lib.hid (fun w' (hk : Kept NoB w w') => canSettle_any (.slice (some ⟨b, o, none⟩) l.length cap) _ l (nthC l ch) nd F w' (hcv.kept hk (fun _ _ _ h => h)) hn1)
  obtain ⟨r, hr⟩ : ∃ r, r = canK l (nthC l ch) 4 nd := ⟨_, rfl⟩
  rw [← hr] at HC ⊢
  obtain ⟨c, hc⟩ : ∃ c, c = nthC l ch := ⟨_, rfl⟩
  rw [← hc] at e0 e1 e2 e3 e4 he HC
  obtain ⟨cch, cep, ns, fr, jn⟩ := c
  simp only at e0 e1 e2 e3 e4 he HC
  subst he
  have hk1 : (ch : Int) < (l.length : Int) := by omega
  have hk0 : (0 : Int) ≤ (ch : Int) := by omega
  have hge : decide ((l.length : Int) ≤ (ch : Int)) = false := decide_eq_false (by omega)
  have HB := Lib.hid (heap_alloc_new w (.cells #[.int .i64 4, .int .i64 (ch : Int), .int .u64 ep, .int .i64 nd] 39))
  have HK := Lib.hid ((Kept.refl NoB w).alloc (.cells #[.int .i64 4, .int .i64 (ch : Int), .int .u64 ep, .int .i64 nd] 39))
  clear hA hx h hcv hns hbd hr hc hn1 hch
  have E := Lib.hid (And.intro e0 (And.intro e1 (And.intro e2 (And.intro e3 e4))))
  clear e0 e1 e2 e3 e4
  go_enter Try.func84, Try.ntmps84
  go_wp2_with fail
  refine (HA.out _ HK.out).mono ?_
  rintro e w1 ⟨rfl, hk⟩
  have HK1 := Lib.hid (HK.out.trans hk (fun _ _ h => h))
  have HB1 := Lib.hid (hk.heap (fun h => h) HB.out)
  obtain ⟨c0, c1, c2, c3⟩ := cells4c HB1.out
  clear hk
  go_wp2_with fail
  refine (HX.out _).mono ?_
  rintro e w2 ⟨rfl, hk⟩
  have HK2 := Lib.hid (HK1.out.trans hk (fun _ _ h => h))
  have HB2 := Lib.hid (hk.heap (fun h => h) HB1.out)
  clear hk c0 c1 c2 c3
  obtain ⟨c0, c1, c2, c3⟩ := cells4c HB2.out
  obtain ⟨g0, g1, g2, g3, g4⟩ := E.out
  have e0 := HK2.out.cell (p := ⟨b, o + ch * 5, none⟩) (fun h => h) g0
  have e1 := HK2.out.cell (p := ⟨b, o + ch * 5 + 1, none⟩) (fun h => h) g1
  have e2 := HK2.out.cell (p := ⟨b, o + ch * 5 + 2, none⟩) (fun h => h) g2
  have e3 := HK2.out.cell (p := ⟨b, o + ch * 5 + 3, none⟩) (fun h => h) g3
  have e4 := HK2.out.cell (p := ⟨b, o + ch * 5 + 4, none⟩) (fun h => h) g4
  have hlt2 := heap_lt HB2.out
  have c0b := cell_alloc c0 (.cells #[.int .i64 cch, .int .u64 ep, .slice ua ns.length uc, .bool fr, .int .i64 jn] 84)
  have c2b := cell_alloc c2 (.cells #[.int .i64 cch, .int .u64 ep, .slice ua ns.length uc, .bool fr, .int .i64 jn] 84)
  have c3b := cell_alloc c3 (.cells #[.int .i64 cch, .int .u64 ep, .slice ua ns.length uc, .bool fr, .int .i64 jn] 84)
  have hnow := heap_alloc_new w2 (.cells #[.int .i64 cch, .int .u64 ep, .slice ua ns.length uc, .bool fr, .int .i64 jn] 84)
  have HK3 := Lib.hid (HK2.out.alloc (.cells #[.int .i64 cch, .int .u64 ep, .slice ua ns.length uc, .bool fr, .int .i64 jn] 84))
  have HNOW := Lib.hid hnow
  clear g0 g1 g2 g3 g4 hnow
  go_wp2_with fail
  generalize w2.alloc (.cells #[.int .i64 cch, .int .u64 ep, .slice ua ns.length uc, .bool fr, .int .i64 jn] 84) = W at c0b c2b c3b HNOW HK3 ⊢
  clear c0 c1 c2 c3 e0 e1 e2 e3 e4
  obtain ⟨n0, n1, n2, n3, n4⟩ := cells5 HNOW.out
  have HKc := Lib.hid (Kept.refl NoB W)
  go_region_held3 (fun w' => w'.cell? ⟨w.heap.size, 0, none⟩ = some (.int .i64 4) ∧ w'.cell? ⟨w.heap.size, 3, none⟩ = some (.int .i64 nd) ∧ w'.cell? ⟨w2.heap.size, 0, none⟩ = some (.int .i64 cch) ∧ w'.cell? ⟨w2.heap.size, 1, none⟩ = some (.int .u64 ep) ∧ w'.cell? ⟨w2.heap.size, 2, none⟩ = some (.slice ua ns.length uc) ∧ w'.cell? ⟨w2.heap.size, 3, none⟩ = some (.bool fr) ∧ w'.cell? ⟨w2.heap.size, 4, none⟩ = some (.int .i64 jn))
    (first
      | exact ⟨cell_drew c0b, cell_drew c3b, cell_drew n0, cell_drew n1, cell_drew n2, cell_drew n3, cell_drew n4⟩
      | exact ⟨HKc.out.cell (p := ⟨w.heap.size, 0, none⟩) (fun h => h) c0b, HKc.out.cell (p := ⟨w.heap.size, 3, none⟩) (fun h => h) c3b, HKc.out.cell (p := ⟨w2.heap.size, 0, none⟩) (fun h => h) n0, HKc.out.cell (p := ⟨w2.heap.size, 1, none⟩) (fun h => h) n1, HKc.out.cell (p := ⟨w2.heap.size, 2, none⟩) (fun h => h) n2, HKc.out.cell (p := ⟨w2.heap.size, 3, none⟩) (fun h => h) n3, HKc.out.cell (p := ⟨w2.heap.size, 4, none⟩) (fun h => h) n4⟩
      | go_keep)
    (first
      | (go_at_call 117; refine (HRU.out _).mono ?_; rintro e w4 ⟨rfl, hk4⟩; replace HKc := Lib.hid (HKc.out.drew.trans hk4 (fun _ _ h => h)); clear hk4)
      | (go_at_call 145; refine (HC.out _ (HK3.out.trans HKc.out (fun _ _ h => h))).mono ?_; rintro e w5 ⟨rfl, hk5⟩; replace HKc := Lib.hid (HKc.out.trans hk5 (fun _ _ h => h)); clear hk5))
  all_goals
    have HKF := Lib.hid (HK3.out.trans HKc.out (fun _ _ h => h))
    have m1 := HKc.out.cell (p := ⟨w2.heap.size, 1, none⟩) (fun h => h) n1
    clear c0b c2b c3b n0 n1 n2 n3 n4
    by_cases h0 : r = 0
    · subst h0
      by_cases ht : ep = topE
      · have HE : Hid (endE 0 ep = 9) := Lib.hid (by unfold endE; rw [if_neg (by decide), if_pos ht])
        have htb : ((ep : Int) == 18446744073709551615) = true := by rw [ht]; rfl
        clear ht
        go_wp2
        go_ret
        exact ⟨(by rw [HE.out] <;> rfl), HKF.out⟩
      · have HE : Hid (endE 0 ep = 0) := Lib.hid (by unfold endE; rw [if_neg (by decide), if_neg ht])
        have htb : ((ep : Int) == 18446744073709551615) = false := by
          have : ep ≠ 18446744073709551615 := ht
          simpa using this
        clear ht
        go_wp2
        go_ret
        exact ⟨(by rw [HE.out] <;> rfl), HKF.out⟩
    · have HE : Hid (endE r ep = r) := Lib.hid (by unfold endE; rw [if_pos h0])
      have h0b : ((r : Int) != 0) = true := by simpa using h0
      clear h0
      go_wp2
      go_ret
      exact ⟨(by rw [HE.out] <;> rfl), HKF.out⟩
end Go.Proofs.Ytidhaofojcdbaaa
namespace Go.Proofs.Ytidhaofojcdbaaa
open Go.RowKit
set_option linter.unusedVariables false

abbrev cmdv (k ch ep nd : Int) : Value := .agg #[.int .i64 k, .int .i64 ch, .int .u64 ep, .int .i64 nd]
set_option maxRecDepth 100000 in
set_option maxHeartbeats 2000000 in
theorem Can_any (v : Value) (l : List Cf) (e0 k ch ep nd : Int) (F : Nat → Prop) (w : World) (h : CfsAt w F v l) (hx : Chk k ch ep nd e0) (hep : 0 ≤ ep) :
    Calls Try.prog 84 #[v, cmdv k ch ep nd] w (IntE (canC l e0 k ch ep nd) w) := by
  obtain ⟨a, cap, rfl, _⟩ := id h
  have hl : l.length ≤ 9223372036854775807 := by have := h.len; unfold maxLen at this; omega
  have HX : Hid (∀ w, Calls Try.prog 52 #[.agg #[.int .i64 k, .int .i64 ch, .int .u64 ep, .int .i64 nd]] w fun e w' => e = .returned (.int .i64 e0) ∧ Kept NoB w w') :=
    Lib.hid (fun w => (Check_any k ch ep nd w hep).mono (by rintro e w' ⟨y, hy, rfl, hk⟩; exact ⟨by rw [hy.one hx], hk⟩))
  have HB := Lib.hid (heap_alloc_new w (.cells #[.int .i64 k, .int .i64 ch, .int .u64 ep, .int .i64 nd] 39))
  have HK := Lib.hid ((Kept.refl NoB w).alloc (.cells #[.int .i64 k, .int .i64 ch, .int .u64 ep, .int .i64 nd] 39))
  by_cases hA : AllC l
  rotate_left
  · have HE : Hid (canC l e0 k ch ep nd = 1) := Lib.hid (by unfold canC; rw [if_pos hA])
    have HN : Hid (∀ w', Kept NoB w w' → _) := Lib.hid (fun w' (hk : Kept NoB w w') => All_no _ l F w' (h.kept hk (fun _ _ _ h => h)) hA)
    clear hA h hx
    go_enter Try.func84, Try.ntmps84
    go_wp2_with fail
    refine (HN.out _ HK.out).mono ?_
    rintro e w1 ⟨rfl, hk⟩
    have HK1 := Lib.hid (HK.out.trans hk (fun _ _ h => h))
    clear hk
    go_wp2
    go_ret
    exact ⟨(by rw [HE.out] <;> rfl), HK1.out⟩
  have HN : Hid (∀ w', Kept NoB w w' → _) := Lib.hid (fun w' (hk : Kept NoB w w') => All_yes _ l F w' (h.kept hk (fun _ _ _ h => h)) hA)
  by_cases h0 : e0 = 0
  rotate_left
  · have HE : Hid (canC l e0 k ch ep nd = e0) := Lib.hid (by unfold canC; rw [if_neg (fun x => x hA), if_pos h0])
    have h0b : ((e0 : Int) != 0) = true := by simpa using h0
    clear hA h hx h0
    go_enter Try.func84, Try.ntmps84
    go_wp2_with fail
    refine (HN.out _ HK.out).mono ?_
    rintro e w1 ⟨rfl, hk⟩
    have HK1 := Lib.hid (HK.out.trans hk (fun _ _ h => h))
    obtain ⟨c0, c1, c2, c3⟩ := cells4c (hk.heap (fun h => h) HB.out)
    clear hk
    go_wp2_with fail
    refine (HX.out _).mono ?_
    rintro e w2 ⟨rfl, hk⟩
    have HK2 := Lib.hid (HK1.out.trans hk (fun _ _ h => h))
    clear hk c0 c1 c2 c3
    go_wp2
    go_ret
    exact ⟨(by rw [HE.out] <;> rfl), HK2.out⟩
  subst h0
  have hV := Chk.ok.1 hx
  unfold Vld at hV
  by_cases hk0 : k = 0
  · subst hk0
    have HE : Hid (canC l 0 0 ch ep nd = 0) := Lib.hid (by unfold canC; rw [if_neg (fun x => x hA), if_neg (by decide), if_pos rfl])
    clear hA h hx hV
    go_enter Try.func84, Try.ntmps84
    go_wp2_with fail
    refine (HN.out _ HK.out).mono ?_
    rintro e w1 ⟨rfl, hk⟩
    have HK1 := Lib.hid (HK.out.trans hk (fun _ _ h => h))
    have HB1 := Lib.hid (hk.heap (fun h => h) HB.out)
    obtain ⟨c0, c1, c2, c3⟩ := cells4c HB1.out
    clear hk
    go_wp2_with fail
    refine (HX.out _).mono ?_
    rintro e w2 ⟨rfl, hk⟩
    have HK2 := Lib.hid (HK1.out.trans hk (fun _ _ h => h))
    have d0 := (cells4c (hk.heap (fun h => h) HB1.out)).1
    clear hk c0 c1 c2 c3
    go_wp2
    go_ret
    exact ⟨(by rw [HE.out] <;> rfl), HK2.out⟩
  obtain ⟨hk1, hk4, hch0, hch3, hep1, hnd1, hnd2⟩ : 1 ≤ k ∧ k ≤ 4 ∧ 0 ≤ ch ∧ ch ≤ 3 ∧ 1 ≤ ep ∧ 1 ≤ nd ∧ nd ≤ 24 := by
    rcases hV with ⟨h, _⟩ | h
    · exact absurd h hk0
    · exact h
  have hkb : ((k : Int) == 0) = false := by simpa using hk0
  by_cases hlc : (l.length : Int) ≤ ch
  · have HE : Hid (canC l 0 k ch ep nd = 7) := Lib.hid (by unfold canC; rw [if_neg (fun x => x hA), if_neg (by decide), if_neg hk0, if_pos hlc])
    have hge : decide ((l.length : Int) ≤ ch) = true := decide_eq_true hlc
    clear hA h hx hV hk0 hlc
    go_enter Try.func84, Try.ntmps84
    go_wp2_with fail
    refine (HN.out _ HK.out).mono ?_
    rintro e w1 ⟨rfl, hk⟩
    have HK1 := Lib.hid (HK.out.trans hk (fun _ _ h => h))
    have HB1 := Lib.hid (hk.heap (fun h => h) HB.out)
    obtain ⟨c0, c1, c2, c3⟩ := cells4c HB1.out
    clear hk
    go_wp2_with fail
    refine (HX.out _).mono ?_
    rintro e w2 ⟨rfl, hk⟩
    have HK2 := Lib.hid (HK1.out.trans hk (fun _ _ h => h))
    obtain ⟨d0, d1, _, _⟩ := cells4c (hk.heap (fun h => h) HB1.out)
    clear hk c0 c1 c2 c3
    go_wp2
    go_ret
    exact ⟨(by rw [HE.out] <;> rfl), HK2.out⟩
  obtain ⟨j, rfl⟩ := Int.eq_ofNat_of_zero_le hch0
  have hj : j < l.length := by omega
  have ejn : ((j : Int)).toNat = j := by omega
  by_cases hee : ep = (nthC l j).ep
  · have HE : canC l 0 k j ep nd = endE (canK l (nthC l j) k nd) ep := by
      unfold canC endE
      rw [if_neg (fun x => x hA), if_neg (by decide), if_neg hk0, if_neg hlc, ejn, if_neg (fun x => x hee), ← hee]
    rw [HE]
    rcases (by omega : k = 1 ∨ k = 2 ∨ k = 3 ∨ k = 4) with rfl | rfl | rfl | rfl
    · exact Can_1 _ l j ep nd F w h hA hx hep hj hee
    · exact Can_2 _ l j ep nd F w h hA hx hep hj hee
    · exact Can_3 _ l j ep nd F w h hA hx hep hj hee
    · exact Can_4 _ l j ep nd F w h hA hx hep hj hee
  · have HE : Hid (canC l 0 k j ep nd = 10) := Lib.hid (by unfold canC; rw [if_neg (fun x => x hA), if_neg (by decide), if_neg hk0, if_neg hlc, ejn, if_pos hee])
    obtain ⟨b, o, rfl, _, _, u, e0, e1, e2, e3, e4, hns, hbd⟩ := h.at_ hj
    obtain ⟨ua, uc, rfl, _⟩ := id hns
    obtain ⟨c, hc⟩ : ∃ c, c = nthC l j := ⟨_, rfl⟩
    rw [← hc] at e0 e1 e2 e3 e4 hee
    obtain ⟨cch, cep, ns, fr, jn⟩ := c
    simp only at e0 e1 e2 e3 e4 hee
    have heb : ((ep : Int) != (cep : Int)) = true := by simpa using hee
    have hk1' : (j : Int) < (l.length : Int) := by omega
    have hge : decide ((l.length : Int) ≤ (j : Int)) = false := decide_eq_false (by omega)
    have E := Lib.hid (And.intro e0 (And.intro e1 (And.intro e2 (And.intro e3 e4))))
    clear hA h hx hV hk0 hlc hee hc hns hbd e0 e1 e2 e3 e4
    go_enter Try.func84, Try.ntmps84
    go_wp2_with fail
    refine (HN.out _ HK.out).mono ?_
    rintro e w1 ⟨rfl, hk⟩
    have HK1 := Lib.hid (HK.out.trans hk (fun _ _ h => h))
    have HB1 := Lib.hid (hk.heap (fun h => h) HB.out)
    obtain ⟨c0, c1, c2, c3⟩ := cells4c HB1.out
    clear hk
    go_wp2_with fail
    refine (HX.out _).mono ?_
    rintro e w2 ⟨rfl, hk⟩
    have HK2 := Lib.hid (HK1.out.trans hk (fun _ _ h => h))
    have HB2 := Lib.hid (hk.heap (fun h => h) HB1.out)
    clear hk c0 c1 c2 c3
    obtain ⟨c0, c1, c2, c3⟩ := cells4c HB2.out
    obtain ⟨g0, g1, g2, g3, g4⟩ := E.out
    have e0 := HK2.out.cell (p := ⟨b, o + j * 5, none⟩) (fun h => h) g0
    have e1 := HK2.out.cell (p := ⟨b, o + j * 5 + 1, none⟩) (fun h => h) g1
    have e2 := HK2.out.cell (p := ⟨b, o + j * 5 + 2, none⟩) (fun h => h) g2
    have e3 := HK2.out.cell (p := ⟨b, o + j * 5 + 3, none⟩) (fun h => h) g3
    have e4 := HK2.out.cell (p := ⟨b, o + j * 5 + 4, none⟩) (fun h => h) g4
    have hlt2 := heap_lt HB2.out
    clear g0 g1 g2 g3 g4
    go_wp2
    go_ret
    exact ⟨(by rw [HE.out] <;> rfl), HK2.out.alloc _⟩
end Go.Proofs.Ytidhaofojcdbaaa
namespace Go.Proofs.Ytidhaofojcdbaaa
open Go.RowKit
set_option linter.unusedVariables false

abbrev wo (l : List Int) (x : Int) : List Int := l.filter (fun y => decide (y ≠ x))
theorem wo_take {l : List Int} {x : Int} {k : Nat} (h : k < l.length) : wo (l.take (k + 1)) x = wo (l.take k) x ++ if l.getD k 0 = x then [] else [l.getD k 0] := by
  unfold wo
  rw [take_one h, List.filter_append]
  congr 1
  by_cases hx : l.getD k 0 = x
  · rw [if_pos hx]; simpa using hx
  · rw [if_neg hx]; simpa using hx
set_option maxRecDepth 100000 in
theorem Without_any (v : Value) (l : List Int) (x : Int) (F : Nat → Prop) (w : World) (h : NSl w F v l) (hl : l.length ≤ 1000) :
    Calls Try.prog 116 #[v, .int .i64 x] w fun e w' => ∃ v', e = .returned v' ∧ IOwn w.heap.size w' v' (wo l x) ∧ Kept NoB w w' := by
  obtain ⟨a, cap, rfl, _⟩ := id h
  have H := Lib.hid h
  clear h
  go_enter Try.func116, Try.ntmps116
  go_wp2
  go_loopw [5, 6] (fun q i wr => ∃ k : Nat, i = .int .i64 k ∧ k ≤ l.length ∧ Kept NoB w wr ∧ IOwn w.heap.size wr q (wo (l.take k) x) ∧ (wo (l.take k) x).length ≤ k) (fun _ i _ => l.length - (intOf i).toNat)
  case atStart => exact ⟨0, rfl, Nat.zero_le _, Kept.refl _ _, IOwn.nil _ _, by simp⟩
  case round =>
    obtain ⟨k, rfl, hk, hkk, hown, hsm⟩ := hrel
    have HK := Lib.hid hkk
    have HO := Lib.hid hown
    obtain ⟨qa, qc, rfl⟩ := hown.form
    have HT := Lib.hid (@wo_take l x k)
    obtain ⟨M, hM⟩ : ∃ M, M = wo (l.take k) x := ⟨_, rfl⟩
    rw [← hM] at HO HT hsm ⊢
    have HM := Lib.hid hM
    clear hkk hown hM
    by_cases hlt : k < l.length
    · obtain ⟨b, o, rfl, _, _, hc⟩ := (H.out.kept HK.out (fun _ _ _ h => h)).at_ hlt
      have HTK := Lib.hid (HT.out hlt)
      obtain ⟨y, hy⟩ : ∃ y, y = l.getD k 0 := ⟨_, rfl⟩
      rw [← hy] at hc HTK
      have hk1 : (k : Int) < (l.length : Int) := by omega
      clear hy
      by_cases he : y = x
      · subst he
        have HE : Hid (wo (l.take (k + 1)) y = M) := Lib.hid (by rw [HTK.out, if_pos rfl, List.append_nil])
        go_wp2
        go_roundw
        case rel => exact ⟨k + 1, by go_num, by omega, HK.out, by rw [HE.out]; exact HO.out, by rw [HE.out]; omega⟩
        case measure => simp [intOf]; omega
      · have hb : ((y : Int) != (x : Int)) = true := by simpa using he
        have HE : Hid (wo (l.take (k + 1)) x = M ++ [y]) := Lib.hid (by rw [HTK.out, if_neg he])
        have HO1 := Lib.hid (row_keptI HO.out ((Kept.refl NoB wr).alloc (.cells #[.int .i64 y] 3)) (fun _ _ h => h))
        have HON := Lib.hid (nsl_one (heap_alloc_new wr (.cells #[.int .i64 y] 3)))
        have HSZ : Hid (w.heap.size ≤ (wr.alloc (.cells #[.int .i64 y] 3)).heap.size) := Lib.hid (by have := HK.out.size; simp; omega)
        have HOL := Lib.hid (World.ownsRow.lt HO.out)
        clear he
        go_wp2_with (at_builtin; refine wpList_append_nsl _ rfl (.tmp 19) (.tmp 24) rfl w.heap.size (.slice qa M.length qc) M rfl HO1.out (fun _ => True) (.slice (some ⟨wr.heap.size, 0, none⟩) 1 1) [y] rfl HON.out (by simp; omega) HSZ.out ?_; intro a1 c1 w3 hown1 hg1 hat1; clear hat1)
        go_roundw
        case rel =>
          refine ⟨k + 1, by go_num, by omega, (HK.out.alloc _).grown hg1 (fun i hi => .inr (HOL.out i hi).1), ?_, ?_⟩
          · rw [HE.out]; simpa using hown1
          · rw [HE.out]; simp; omega
        case measure => simp [intOf]; omega
    · obtain rfl : k = l.length := by omega
      have HE : Hid (M = wo l x) := Lib.hid (by rw [HM.out, List.take_length])
      go_wp2
      go_ret
      exact ⟨_, rfl, by rw [← HE.out]; exact HO.out, HK.out⟩
end Go.Proofs.Ytidhaofojcdbaaa
namespace Go.Proofs.Ytidhaofojcdbaaa
open Go.RowKit
set_option linter.unusedVariables false

set_option maxRecDepth 100000 in
set_option maxHeartbeats 4000000 in
theorem rcan_1 (lv v : Value) (l : List Cf) (c : Cf) (ch ep nd : Int) (F G : Nat → Prop) (w : World) (hl : CfsAt w G lv l) (h : CfV w F v c) (h1 : 1 ≤ c.ns.length) (h5 : c.ns.length ≤ 5) :
    Calls Try.prog 115 #[lv, v, .agg #[.int .i64 1, .int .i64 ch, .int .u64 ep, .int .i64 nd]] w (IntE (endE (canK l c 1 nd) c.ep) w) := by
  obtain ⟨u, rfl, hn, hbd⟩ := id h
  obtain ⟨a, cap, rfl, _⟩ := id hn
  obtain ⟨la, lc, rfl, _⟩ := id hl
  have hnl := hbd.2.2
  have HM := Lib.hid (fun w' (hk : Kept NoB w w') => Stands_any _ c F w' (h.kept hk (fun _ _ _ h => h)))
  have HS := Lib.hid (fun w' (hk : Kept NoB w w') => RSettled_any _ c F w' (h.kept hk (fun _ _ _ h => h)))
  have hsl : c.set.length ≤ 1000 := by
    unfold Cf.set
    split
    · split
      · rw [List.length_take]; omega
      · exact hnl
    · simp
  obtain ⟨d, hd⟩ : ∃ d, d = decide (nd ∈ c.mem) := ⟨_, rfl⟩
  have HD := Lib.hid (fun v (F : Nat → Prop) w (h : NSl w F v c.mem) => hd ▸ Has4_any v c.mem nd F w h)
  have HC := Lib.hid (fun v (F : Nat → Prop) w (h : NSl w F v c.set) => Without_any v c.set nd F w h hsl)
  obtain ⟨q, hq⟩ : ∃ q, q = (wo c.set nd).length := ⟨_, rfl⟩
  have HX : Hid (canK l c 1 nd = if d = true then (if q = 0 then 12 else 0) else 7) := Lib.hid (by
    unfold canK
    rw [if_pos rfl, hd, hq]
    by_cases h1 : nd ∈ c.mem
    · rw [if_neg (fun h => h h1), decide_eq_true h1, if_pos rfl]
      by_cases h2 : ∀ x ∈ c.set, x = nd
      · rw [if_pos h2, if_pos]
        rw [List.length_eq_zero_iff, List.filter_eq_nil_iff]
        intro x hx
        simpa using h2 x hx
      · rw [if_neg h2, if_neg]
        rw [List.length_eq_zero_iff, List.filter_eq_nil_iff]
        intro h3
        exact h2 fun x hx => by simpa using h3 x hx
    · rw [if_pos h1, decide_eq_false h1]; rfl)
  have HQ := Lib.hid hq
  clear hd hq hsl
  obtain ⟨M, hM⟩ : ∃ x, x = c.mem := ⟨_, rfl⟩
  obtain ⟨T, hT⟩ : ∃ x, x = c.set := ⟨_, rfl⟩
  rw [← hM] at HM HD
  rw [← hT] at HS HC HQ
  clear hM hT
  have hn1 := hn.kept (((Kept.refl NoB w).alloc (.cells #[.int .i64 c.ch, .int .u64 c.ep, .slice a c.ns.length cap, .bool c.fr, .int .i64 c.jn] 84)).alloc (.cells #[.int .i64 1, .int .i64 ch, .int .u64 ep, .int .i64 nd] 39)) (fun _ _ _ h => h)
  obtain ⟨b, o, rfl, _, _, hc⟩ := hn1.at_ (j := c.ns.length - 1) (by omega)
  have HLA : Hid (c.last = c.ns.getD (c.ns.length - 1) 0) := Lib.hid rfl
  obtain ⟨x, hx⟩ : ∃ x, x = c.ns.getD (c.ns.length - 1) 0 := ⟨_, rfl⟩
  rw [← hx] at hc HLA
  obtain ⟨r, hr⟩ : ∃ r, r = canK l c 1 nd := ⟨_, rfl⟩
  rw [← hr] at HX ⊢
  have HE0 : Hid (∀ e, endE 0 e = if e = topE then 9 else 0) := Lib.hid (fun e => by unfold endE; rw [if_neg (by decide)])
  have HE1 : Hid (∀ y e, y ≠ 0 → endE y e = y) := Lib.hid (fun y e hy => by unfold endE; rw [if_pos hy])
  have htop : topE = 18446744073709551615 := rfl
  have HTOP := Lib.hid htop
  clear h hn hbd hr hl hn1 hx htop
  obtain ⟨cch, cep, ns, fr, jn⟩ := c
  simp only at HX HLA hc hnl h1 h5 HM HS ⊢
  obtain ⟨m, hm⟩ : ∃ m, m = ns.length - 1 := ⟨_, rfl⟩
  obtain ⟨n, hnn⟩ : ∃ n, n = ns.length := ⟨_, rfl⟩
  have hml : n = m + 1 := by omega
  rw [← hm] at hc
  rw [← hnn] at hc hnl h5 HM HS ⊢
  have HML := Lib.hid hml
  have hmi : (n : Int) - 1 = (m : Int) := by omega
  have hm0 : (0 : Int) ≤ (m : Int) := by omega
  have hm1 : (m : Int) < (n : Int) := by omega
  have HMI := Lib.hid hmi
  clear hm hnn hml h1 hmi
  have hb0 := balloc (heap_alloc_new w (.cells #[.int .i64 cch, .int .u64 cep, .slice (some ⟨b, o, none⟩) n cap, .bool fr, .int .i64 jn] 84)) (.cells #[.int .i64 1, .int .i64 ch, .int .u64 ep, .int .i64 nd] 39)
  have hz : (w.alloc (.cells #[.int .i64 cch, .int .u64 cep, .slice (some ⟨b, o, none⟩) n cap, .bool fr, .int .i64 jn] 84)).heap.size = w.heap.size + 1 := by simp
  have hi0 := heap_alloc_new (w.alloc (.cells #[.int .i64 cch, .int .u64 cep, .slice (some ⟨b, o, none⟩) n cap, .bool fr, .int .i64 jn] 84)) (.cells #[.int .i64 1, .int .i64 ch, .int .u64 ep, .int .i64 nd] 39)
  rw [hz] at hi0
  have HK := Lib.hid (((Kept.refl NoB w).alloc (.cells #[.int .i64 cch, .int .u64 cep, .slice (some ⟨b, o, none⟩) n cap, .bool fr, .int .i64 jn] 84)).alloc (.cells #[.int .i64 1, .int .i64 ch, .int .u64 ep, .int .i64 nd] 39))
  have HB := Lib.hid hb0
  have HI := Lib.hid hi0
  have hmi := HMI.out
  clear hz hb0 hi0
  go_enter Try.func115, Try.ntmps115
  go_wp2_with fail
  generalize (w.alloc (.cells #[.int .i64 cch, .int .u64 cep, .slice (some ⟨b, o, none⟩) n cap, .bool fr, .int .i64 jn] 84)).alloc (.cells #[.int .i64 1, .int .i64 ch, .int .u64 ep, .int .i64 nd] 39) = W at hc HB HI HK ⊢
  obtain ⟨c0, c1, c2, c3, c4⟩ := cells5 HB.out
  obtain ⟨d0, d1, d2, d3⟩ := cells4c HI.out
  have HKc := Lib.hid (Kept.refl NoB W)
  go_region_held3 (fun w' => w'.cell? ⟨w.heap.size, 0, none⟩ = some (.int .i64 cch) ∧ w'.cell? ⟨w.heap.size, 1, none⟩ = some (.int .u64 cep) ∧ w'.cell? ⟨w.heap.size, 2, none⟩ = some (.slice (some ⟨b, o, none⟩) n cap) ∧ w'.cell? ⟨w.heap.size, 3, none⟩ = some (.bool fr) ∧ w'.cell? ⟨w.heap.size, 4, none⟩ = some (.int .i64 jn) ∧ w'.cell? ⟨w.heap.size + 1, 3, none⟩ = some (.int .i64 nd))
    (first
      | exact ⟨cell_drew c0, cell_drew c1, cell_drew c2, cell_drew c3, cell_drew c4, cell_drew d3⟩
      | exact ⟨HKc.out.cell (p := ⟨w.heap.size, 0, none⟩) (fun h => h) c0, HKc.out.cell (p := ⟨w.heap.size, 1, none⟩) (fun h => h) c1, HKc.out.cell (p := ⟨w.heap.size, 2, none⟩) (fun h => h) c2, HKc.out.cell (p := ⟨w.heap.size, 3, none⟩) (fun h => h) c3, HKc.out.cell (p := ⟨w.heap.size, 4, none⟩) (fun h => h) c4, HKc.out.cell (p := ⟨w.heap.size + 1, 3, none⟩) (fun h => h) d3⟩
      | go_keep)
    (first
      | (go_at_call 134; refine (HM.out _ HK.out.drew).mono ?_; rintro e w1 ⟨v', rfl, hown, hk1⟩; have HN := Lib.hid hown.nslB; replace HKc := Lib.hid (HKc.out.drew.trans hk1 (fun _ _ h => h)); clear hown hk1)
      | (go_at_call 136; refine (HD.out _ _ _ HN.out).mono ?_; rintro e w2 ⟨rfl, rfl⟩))
  all_goals
    have hnot : ∀ (x : Bool) (w : World), (Op.unary .not (.bool x)).run Try.prog w = .ok (.bool (!x)) w := fun _ _ => rfl
    have HKF := Lib.hid (HK.out.trans HKc.out (fun _ _ h => h))
    cases d with
    | false =>
      have HX' : Hid (r = 7) := Lib.hid (by rw [HX.out]; rfl)
      have HF : Hid (endE r cep = 7) := Lib.hid (by rw [HX'.out, HE1.out _ _ (by decide)])
      go_wp2
      go_ret
      exact ⟨(by rw [HF.out] <;> rfl), HKF.out⟩
    | true =>
      have HB2 := Lib.hid (HKc.out.heap (fun h => h) HB.out)
      have HI2 := Lib.hid (HKc.out.heap (fun h => h) HI.out)
      rename World => W2
      clear c0 c1 c2 c3 c4 d0 d1 d2 d3
      obtain ⟨c0, c1, c2, c3, c4⟩ := cells5 HB2.out
      obtain ⟨d0, d1, d2, d3⟩ := cells4c HI2.out
      clear HKc
      go_wp2_with fail
      have HKc := Lib.hid (Kept.refl NoB W2)
      go_region_held3 (fun w' => w'.cell? ⟨w.heap.size, 0, none⟩ = some (.int .i64 cch) ∧ w'.cell? ⟨w.heap.size, 1, none⟩ = some (.int .u64 cep) ∧ w'.cell? ⟨w.heap.size, 2, none⟩ = some (.slice (some ⟨b, o, none⟩) n cap) ∧ w'.cell? ⟨w.heap.size, 3, none⟩ = some (.bool fr) ∧ w'.cell? ⟨w.heap.size, 4, none⟩ = some (.int .i64 jn) ∧ w'.cell? ⟨w.heap.size + 1, 3, none⟩ = some (.int .i64 nd))
        (first
      | exact ⟨cell_drew c0, cell_drew c1, cell_drew c2, cell_drew c3, cell_drew c4, cell_drew d3⟩
      | exact ⟨HKc.out.cell (p := ⟨w.heap.size, 0, none⟩) (fun h => h) c0, HKc.out.cell (p := ⟨w.heap.size, 1, none⟩) (fun h => h) c1, HKc.out.cell (p := ⟨w.heap.size, 2, none⟩) (fun h => h) c2, HKc.out.cell (p := ⟨w.heap.size, 3, none⟩) (fun h => h) c3, HKc.out.cell (p := ⟨w.heap.size, 4, none⟩) (fun h => h) c4, HKc.out.cell (p := ⟨w.heap.size + 1, 3, none⟩) (fun h => h) d3⟩
      | go_keep)
        (first
          | (go_at_call 137; refine (HS.out _ HKF.out.drew).mono ?_; rintro e w3 ⟨v', rfl, hn3, hk1⟩; have HN3 := Lib.hid hn3; replace HKc := Lib.hid (HKc.out.drew.trans hk1 (fun _ _ h => h)); clear hn3 hk1)
          | (go_at_call 116; refine (HC.out _ _ _ HN3.out).mono ?_; rintro e w4 ⟨v4, rfl, hown, hk1⟩; obtain ⟨va, vc, rfl⟩ := hown.form; rw [← HQ.out]; replace HKc := Lib.hid (HKc.out.trans hk1 (fun _ _ h => h)); clear hown hk1))
      all_goals
        have HKG := Lib.hid (HKF.out.trans HKc.out (fun _ _ h => h))
        clear c0 c1 c2 c3 c4 d0 d1 d2 d3
        have c1 := (cells5 (HKc.out.heap (fun h => h) HB2.out)).2.1
        by_cases hq0 : q = 0
        · subst hq0
          have HX' : Hid (r = 12) := Lib.hid (by rw [HX.out]; rfl)
          have HF : Hid (endE r cep = 12) := Lib.hid (by rw [HX'.out, HE1.out _ _ (by decide)])
          go_wp2
          go_ret
          exact ⟨(by rw [HF.out] <;> rfl), HKG.out⟩
        · have hqb : ((q : Int) == 0) = false := by simp; omega
          have HX' : Hid (r = 0) := Lib.hid (by rw [HX.out]; simp [hq0])
          clear hq0
          by_cases ht : cep = topE
          · have HF : Hid (endE r cep = 9) := Lib.hid (by rw [HX'.out, HE0.out, if_pos ht])
            have htb : ((cep : Int) == 18446744073709551615) = true := by rw [ht]; rfl
            clear ht
            go_wp2
            go_ret
            exact ⟨(by rw [HF.out] <;> rfl), HKG.out⟩
          · have HF : Hid (endE r cep = 0) := Lib.hid (by rw [HX'.out, HE0.out, if_neg ht])
            have htb : ((cep : Int) == 18446744073709551615) = false := by
              have : cep ≠ 18446744073709551615 := ht
              simpa using this
            clear ht
            go_wp2
            go_ret
            exact ⟨(by rw [HF.out] <;> rfl), HKG.out⟩

set_option maxRecDepth 100000 in
set_option maxHeartbeats 4000000 in
theorem rcan_2 (lv v : Value) (l : List Cf) (c : Cf) (ch ep nd : Int) (F G : Nat → Prop) (w : World) (hl : CfsAt w G lv l) (h : CfV w F v c) (h1 : 1 ≤ c.ns.length) (h5 : c.ns.length ≤ 5) :
    Calls Try.prog 115 #[lv, v, .agg #[.int .i64 2, .int .i64 ch, .int .u64 ep, .int .i64 nd]] w (IntE (endE (canK l c 2 nd) c.ep) w) := by
  obtain ⟨u, rfl, hn, hbd⟩ := id h
  obtain ⟨a, cap, rfl, _⟩ := id hn
  obtain ⟨la, lc, rfl, _⟩ := id hl
  have hnl := hbd.2.2
  obtain ⟨d, hd⟩ : ∃ d, d = usedB l nd := ⟨_, rfl⟩
  have HU := Lib.hid (fun w' (hk : Kept NoB w w') => hd ▸ RUsed_any _ l nd G w' (hl.kept hk (fun _ _ _ h => h)))
  have HX : Hid (canK l c 2 nd = if d = true then 8 else if c.jn ≠ 0 ∨ c.fr = true then 12 else if 5 ≤ c.ns.length then 9 else 0) := Lib.hid (k2_is l c nd d hd)
  clear hd
  have hn1 := hn.kept (((Kept.refl NoB w).alloc (.cells #[.int .i64 c.ch, .int .u64 c.ep, .slice a c.ns.length cap, .bool c.fr, .int .i64 c.jn] 84)).alloc (.cells #[.int .i64 2, .int .i64 ch, .int .u64 ep, .int .i64 nd] 39)) (fun _ _ _ h => h)
  obtain ⟨b, o, rfl, _, _, hc⟩ := hn1.at_ (j := c.ns.length - 1) (by omega)
  have HLA : Hid (c.last = c.ns.getD (c.ns.length - 1) 0) := Lib.hid rfl
  obtain ⟨x, hx⟩ : ∃ x, x = c.ns.getD (c.ns.length - 1) 0 := ⟨_, rfl⟩
  rw [← hx] at hc HLA
  obtain ⟨r, hr⟩ : ∃ r, r = canK l c 2 nd := ⟨_, rfl⟩
  rw [← hr] at HX ⊢
  have HE0 : Hid (∀ e, endE 0 e = if e = topE then 9 else 0) := Lib.hid (fun e => by unfold endE; rw [if_neg (by decide)])
  have HE1 : Hid (∀ y e, y ≠ 0 → endE y e = y) := Lib.hid (fun y e hy => by unfold endE; rw [if_pos hy])
  have htop : topE = 18446744073709551615 := rfl
  have HTOP := Lib.hid htop
  clear h hn hbd hr hl hn1 hx htop
  obtain ⟨cch, cep, ns, fr, jn⟩ := c
  simp only at HX HLA hc hnl h1 h5  ⊢
  obtain ⟨m, hm⟩ : ∃ m, m = ns.length - 1 := ⟨_, rfl⟩
  obtain ⟨n, hnn⟩ : ∃ n, n = ns.length := ⟨_, rfl⟩
  have hml : n = m + 1 := by omega
  rw [← hm] at hc
  rw [← hnn] at hc hnl h5 HX ⊢
  have HML := Lib.hid hml
  have hmi : (n : Int) - 1 = (m : Int) := by omega
  have hm0 : (0 : Int) ≤ (m : Int) := by omega
  have hm1 : (m : Int) < (n : Int) := by omega
  have HMI := Lib.hid hmi
  clear hm hnn hml h1 hmi
  have hb0 := balloc (heap_alloc_new w (.cells #[.int .i64 cch, .int .u64 cep, .slice (some ⟨b, o, none⟩) n cap, .bool fr, .int .i64 jn] 84)) (.cells #[.int .i64 2, .int .i64 ch, .int .u64 ep, .int .i64 nd] 39)
  have hz : (w.alloc (.cells #[.int .i64 cch, .int .u64 cep, .slice (some ⟨b, o, none⟩) n cap, .bool fr, .int .i64 jn] 84)).heap.size = w.heap.size + 1 := by simp
  have hi0 := heap_alloc_new (w.alloc (.cells #[.int .i64 cch, .int .u64 cep, .slice (some ⟨b, o, none⟩) n cap, .bool fr, .int .i64 jn] 84)) (.cells #[.int .i64 2, .int .i64 ch, .int .u64 ep, .int .i64 nd] 39)
  rw [hz] at hi0
  have HK := Lib.hid (((Kept.refl NoB w).alloc (.cells #[.int .i64 cch, .int .u64 cep, .slice (some ⟨b, o, none⟩) n cap, .bool fr, .int .i64 jn] 84)).alloc (.cells #[.int .i64 2, .int .i64 ch, .int .u64 ep, .int .i64 nd] 39))
  have HB := Lib.hid hb0
  have HI := Lib.hid hi0
  have hmi := HMI.out
  clear hz hb0 hi0
  by_cases hj : jn = 0
  rotate_left
  · have hjb : ((jn : Int) != 0) = true := by simpa using hj
    cases d with
    | true =>
      have HF : Hid (endE r cep = 8) := Lib.hid (by rw [HX.out, if_pos rfl, HE1.out _ _ (by decide)])
      clear hj
      go_enter Try.func115, Try.ntmps115
      go_wp2_with fail
      refine (HU.out _ HK.out).mono ?_
      rintro e w1 ⟨rfl, hk⟩
      have HK1 := Lib.hid (HK.out.trans hk (fun _ _ h => h))
      clear hk
      go_wp2
      go_ret
      exact ⟨(by rw [HF.out] <;> rfl), HK1.out⟩
    | false =>
      have HF : Hid (endE r cep = 12) := Lib.hid (by rw [HX.out, if_neg (by decide), if_pos (.inl hj), HE1.out _ _ (by decide)])
      clear hj
      go_enter Try.func115, Try.ntmps115
      go_wp2_with fail
      refine (HU.out _ HK.out).mono ?_
      rintro e w1 ⟨rfl, hk⟩
      have HK1 := Lib.hid (HK.out.trans hk (fun _ _ h => h))
      obtain ⟨c0, c1, c2, c3, c4⟩ := cells5 (hk.heap (fun h => h) HB.out)
      clear hk
      go_wp2
      go_ret
      exact ⟨(by rw [HF.out] <;> rfl), HK1.out⟩
  subst hj
  cases d with
  | true =>
    have HF : Hid (endE r cep = 8) := Lib.hid (by rw [HX.out, if_pos rfl, HE1.out _ _ (by decide)])
    go_enter Try.func115, Try.ntmps115
    go_wp2_with fail
    refine (HU.out _ HK.out).mono ?_
    rintro e w1 ⟨rfl, hk⟩
    have HK1 := Lib.hid (HK.out.trans hk (fun _ _ h => h))
    clear hk
    go_wp2
    go_ret
    exact ⟨(by rw [HF.out] <;> rfl), HK1.out⟩
  | false =>
    cases fr with
    | true =>
      have HF : Hid (endE r cep = 12) := Lib.hid (by rw [HX.out, if_neg (by decide), if_pos (.inr rfl), HE1.out _ _ (by decide)])
      go_enter Try.func115, Try.ntmps115
      go_wp2_with fail
      refine (HU.out _ HK.out).mono ?_
      rintro e w1 ⟨rfl, hk⟩
      have HK1 := Lib.hid (HK.out.trans hk (fun _ _ h => h))
      obtain ⟨c0, c1, c2, c3, c4⟩ := cells5 (hk.heap (fun h => h) HB.out)
      clear hk
      go_wp2
      go_ret
      exact ⟨(by rw [HF.out] <;> rfl), HK1.out⟩
    | false =>
      by_cases hn5 : n = 5
      · have HF : Hid (endE r cep = 9) := Lib.hid (by rw [HX.out, if_neg (by decide), if_neg (by simp), if_pos (by omega), HE1.out _ _ (by decide)])
        have hnb : ((n : Int) == 5) = true := by simp; omega
        clear hn5
        go_enter Try.func115, Try.ntmps115
        go_wp2_with fail
        refine (HU.out _ HK.out).mono ?_
        rintro e w1 ⟨rfl, hk⟩
        have HK1 := Lib.hid (HK.out.trans hk (fun _ _ h => h))
        obtain ⟨c0, c1, c2, c3, c4⟩ := cells5 (hk.heap (fun h => h) HB.out)
        clear hk
        go_wp2
        go_ret
        exact ⟨(by rw [HF.out] <;> rfl), HK1.out⟩
      · have HX' : Hid (r = 0) := Lib.hid (by rw [HX.out, if_neg (by decide), if_neg (by simp), if_neg (by omega)])
        have hnb : ((n : Int) == 5) = false := by simp; omega
        clear hn5
        go_enter Try.func115, Try.ntmps115
        go_wp2_with fail
        refine (HU.out _ HK.out).mono ?_
        rintro e w1 ⟨rfl, hk⟩
        have HK1 := Lib.hid (HK.out.trans hk (fun _ _ h => h))
        obtain ⟨c0, c1, c2, c3, c4⟩ := cells5 (hk.heap (fun h => h) HB.out)
        clear hk
        by_cases ht : cep = topE
        · have HF : Hid (endE r cep = 9) := Lib.hid (by rw [HX'.out, HE0.out, if_pos ht])
          have htb : ((cep : Int) == 18446744073709551615) = true := by rw [ht]; rfl
          clear ht
          go_wp2
          go_ret
          exact ⟨(by rw [HF.out] <;> rfl), HK1.out⟩
        · have HF : Hid (endE r cep = 0) := Lib.hid (by rw [HX'.out, HE0.out, if_neg ht])
          have htb : ((cep : Int) == 18446744073709551615) = false := by
            have : cep ≠ 18446744073709551615 := ht
            simpa using this
          clear ht
          go_wp2
          go_ret
          exact ⟨(by rw [HF.out] <;> rfl), HK1.out⟩

set_option maxRecDepth 100000 in
set_option maxHeartbeats 4000000 in
theorem rcan_3 (lv v : Value) (l : List Cf) (c : Cf) (ch ep nd : Int) (F G : Nat → Prop) (w : World) (hl : CfsAt w G lv l) (h : CfV w F v c) (h1 : 1 ≤ c.ns.length) (h5 : c.ns.length ≤ 5) :
    Calls Try.prog 115 #[lv, v, .agg #[.int .i64 3, .int .i64 ch, .int .u64 ep, .int .i64 nd]] w (IntE (endE (canK l c 3 nd) c.ep) w) := by
  obtain ⟨u, rfl, hn, hbd⟩ := id h
  obtain ⟨a, cap, rfl, _⟩ := id hn
  obtain ⟨la, lc, rfl, _⟩ := id hl
  have hnl := hbd.2.2
  have HX : Hid (canK l c 3 nd = if c.jn ≠ nd then 7 else if 5 ≤ c.ns.length then 9 else 0) := Lib.hid (k3_is l c nd)
  have hn1 := hn.kept (((Kept.refl NoB w).alloc (.cells #[.int .i64 c.ch, .int .u64 c.ep, .slice a c.ns.length cap, .bool c.fr, .int .i64 c.jn] 84)).alloc (.cells #[.int .i64 3, .int .i64 ch, .int .u64 ep, .int .i64 nd] 39)) (fun _ _ _ h => h)
  obtain ⟨b, o, rfl, _, _, hc⟩ := hn1.at_ (j := c.ns.length - 1) (by omega)
  have HLA : Hid (c.last = c.ns.getD (c.ns.length - 1) 0) := Lib.hid rfl
  obtain ⟨x, hx⟩ : ∃ x, x = c.ns.getD (c.ns.length - 1) 0 := ⟨_, rfl⟩
  rw [← hx] at hc HLA
  obtain ⟨r, hr⟩ : ∃ r, r = canK l c 3 nd := ⟨_, rfl⟩
  rw [← hr] at HX ⊢
  have HE0 : Hid (∀ e, endE 0 e = if e = topE then 9 else 0) := Lib.hid (fun e => by unfold endE; rw [if_neg (by decide)])
  have HE1 : Hid (∀ y e, y ≠ 0 → endE y e = y) := Lib.hid (fun y e hy => by unfold endE; rw [if_pos hy])
  have htop : topE = 18446744073709551615 := rfl
  have HTOP := Lib.hid htop
  clear h hn hbd hr hl hn1 hx htop
  obtain ⟨cch, cep, ns, fr, jn⟩ := c
  simp only at HX HLA hc hnl h1 h5  ⊢
  obtain ⟨m, hm⟩ : ∃ m, m = ns.length - 1 := ⟨_, rfl⟩
  obtain ⟨n, hnn⟩ : ∃ n, n = ns.length := ⟨_, rfl⟩
  have hml : n = m + 1 := by omega
  rw [← hm] at hc
  rw [← hnn] at hc hnl h5 HX ⊢
  have HML := Lib.hid hml
  have hmi : (n : Int) - 1 = (m : Int) := by omega
  have hm0 : (0 : Int) ≤ (m : Int) := by omega
  have hm1 : (m : Int) < (n : Int) := by omega
  have HMI := Lib.hid hmi
  clear hm hnn hml h1 hmi
  have hb0 := balloc (heap_alloc_new w (.cells #[.int .i64 cch, .int .u64 cep, .slice (some ⟨b, o, none⟩) n cap, .bool fr, .int .i64 jn] 84)) (.cells #[.int .i64 3, .int .i64 ch, .int .u64 ep, .int .i64 nd] 39)
  have hz : (w.alloc (.cells #[.int .i64 cch, .int .u64 cep, .slice (some ⟨b, o, none⟩) n cap, .bool fr, .int .i64 jn] 84)).heap.size = w.heap.size + 1 := by simp
  have hi0 := heap_alloc_new (w.alloc (.cells #[.int .i64 cch, .int .u64 cep, .slice (some ⟨b, o, none⟩) n cap, .bool fr, .int .i64 jn] 84)) (.cells #[.int .i64 3, .int .i64 ch, .int .u64 ep, .int .i64 nd] 39)
  rw [hz] at hi0
  have HK := Lib.hid (((Kept.refl NoB w).alloc (.cells #[.int .i64 cch, .int .u64 cep, .slice (some ⟨b, o, none⟩) n cap, .bool fr, .int .i64 jn] 84)).alloc (.cells #[.int .i64 3, .int .i64 ch, .int .u64 ep, .int .i64 nd] 39))
  have HB := Lib.hid hb0
  have HI := Lib.hid hi0
  have hmi := HMI.out
  clear hz hb0 hi0
  by_cases hj : jn = nd
  rotate_left
  · have hjb : ((jn : Int) != (nd : Int)) = true := by simpa using hj
    have HF : Hid (endE r cep = 7) := Lib.hid (by rw [HX.out, if_pos hj, HE1.out _ _ (by decide)])
    clear hj
    go_enter Try.func115, Try.ntmps115
    go_wp2_with fail
    go_ret
    exact ⟨(by rw [HF.out] <;> rfl), HK.out⟩
  subst hj
  by_cases hn5 : n = 5
  · have HF : Hid (endE r cep = 9) := Lib.hid (by rw [HX.out, if_neg (by simp), if_pos (by omega), HE1.out _ _ (by decide)])
    have hnb : ((n : Int) == 5) = true := by simp; omega
    clear hn5
    go_enter Try.func115, Try.ntmps115
    go_wp2_with fail
    go_ret
    exact ⟨(by rw [HF.out] <;> rfl), HK.out⟩
  · have HX' : Hid (r = 0) := Lib.hid (by rw [HX.out, if_neg (by simp), if_neg (by omega)])
    have hnb : ((n : Int) == 5) = false := by simp; omega
    clear hn5
    by_cases ht : cep = topE
    · have HF : Hid (endE r cep = 9) := Lib.hid (by rw [HX'.out, HE0.out, if_pos ht])
      have htb : ((cep : Int) == 18446744073709551615) = true := by rw [ht]; rfl
      clear ht
      go_enter Try.func115, Try.ntmps115
      go_wp2_with fail
      go_ret
      exact ⟨(by rw [HF.out] <;> rfl), HK.out⟩
    · have HF : Hid (endE r cep = 0) := Lib.hid (by rw [HX'.out, HE0.out, if_neg ht])
      have htb : ((cep : Int) == 18446744073709551615) = false := by
        have : cep ≠ 18446744073709551615 := ht
        simpa using this
      clear ht
      go_enter Try.func115, Try.ntmps115
      go_wp2_with fail
      go_ret
      exact ⟨(by rw [HF.out] <;> rfl), HK.out⟩

set_option maxRecDepth 100000 in
set_option maxHeartbeats 4000000 in
theorem rcan_4 (lv v : Value) (l : List Cf) (c : Cf) (ch ep nd : Int) (F G : Nat → Prop) (w : World) (hl : CfsAt w G lv l) (h : CfV w F v c) (h1 : 1 ≤ c.ns.length) (h5 : c.ns.length ≤ 5) :
    Calls Try.prog 115 #[lv, v, .agg #[.int .i64 4, .int .i64 ch, .int .u64 ep, .int .i64 nd]] w (IntE (endE (canK l c 4 nd) c.ep) w) := by
  obtain ⟨u, rfl, hn, hbd⟩ := id h
  obtain ⟨a, cap, rfl, _⟩ := id hn
  obtain ⟨la, lc, rfl, _⟩ := id hl
  have hnl := hbd.2.2
  have HX : Hid (canK l c 4 nd = if c.fr = false ∨ c.last ≠ nd then 7 else 0) := Lib.hid (k4_is l c nd)
  have hn1 := hn.kept (((Kept.refl NoB w).alloc (.cells #[.int .i64 c.ch, .int .u64 c.ep, .slice a c.ns.length cap, .bool c.fr, .int .i64 c.jn] 84)).alloc (.cells #[.int .i64 4, .int .i64 ch, .int .u64 ep, .int .i64 nd] 39)) (fun _ _ _ h => h)
  obtain ⟨b, o, rfl, _, _, hc⟩ := hn1.at_ (j := c.ns.length - 1) (by omega)
  have HLA : Hid (c.last = c.ns.getD (c.ns.length - 1) 0) := Lib.hid rfl
  obtain ⟨x, hx⟩ : ∃ x, x = c.ns.getD (c.ns.length - 1) 0 := ⟨_, rfl⟩
  rw [← hx] at hc HLA
  obtain ⟨r, hr⟩ : ∃ r, r = canK l c 4 nd := ⟨_, rfl⟩
  rw [← hr] at HX ⊢
  have HE0 : Hid (∀ e, endE 0 e = if e = topE then 9 else 0) := Lib.hid (fun e => by unfold endE; rw [if_neg (by decide)])
  have HE1 : Hid (∀ y e, y ≠ 0 → endE y e = y) := Lib.hid (fun y e hy => by unfold endE; rw [if_pos hy])
  have htop : topE = 18446744073709551615 := rfl
  have HTOP := Lib.hid htop
  clear h hn hbd hr hl hn1 hx htop
  obtain ⟨cch, cep, ns, fr, jn⟩ := c
  simp only at HX HLA hc hnl h1 h5  ⊢
  obtain ⟨m, hm⟩ : ∃ m, m = ns.length - 1 := ⟨_, rfl⟩
  obtain ⟨n, hnn⟩ : ∃ n, n = ns.length := ⟨_, rfl⟩
  have hml : n = m + 1 := by omega
  rw [← hm] at hc
  rw [← hnn] at hc hnl h5  ⊢
  have HML := Lib.hid hml
  have hmi : (n : Int) - 1 = (m : Int) := by omega
  have hm0 : (0 : Int) ≤ (m : Int) := by omega
  have hm1 : (m : Int) < (n : Int) := by omega
  have HMI := Lib.hid hmi
  clear hm hnn hml h1 hmi
  have hb0 := balloc (heap_alloc_new w (.cells #[.int .i64 cch, .int .u64 cep, .slice (some ⟨b, o, none⟩) n cap, .bool fr, .int .i64 jn] 84)) (.cells #[.int .i64 4, .int .i64 ch, .int .u64 ep, .int .i64 nd] 39)
  have hz : (w.alloc (.cells #[.int .i64 cch, .int .u64 cep, .slice (some ⟨b, o, none⟩) n cap, .bool fr, .int .i64 jn] 84)).heap.size = w.heap.size + 1 := by simp
  have hi0 := heap_alloc_new (w.alloc (.cells #[.int .i64 cch, .int .u64 cep, .slice (some ⟨b, o, none⟩) n cap, .bool fr, .int .i64 jn] 84)) (.cells #[.int .i64 4, .int .i64 ch, .int .u64 ep, .int .i64 nd] 39)
  rw [hz] at hi0
  have HK := Lib.hid (((Kept.refl NoB w).alloc (.cells #[.int .i64 cch, .int .u64 cep, .slice (some ⟨b, o, none⟩) n cap, .bool fr, .int .i64 jn] 84)).alloc (.cells #[.int .i64 4, .int .i64 ch, .int .u64 ep, .int .i64 nd] 39))
  have HB := Lib.hid hb0
  have HI := Lib.hid hi0
  have hmi := HMI.out
  clear hz hb0 hi0
  rw [HLA.out] at HX
  cases fr with
  | false =>
    have HF : Hid (endE r cep = 7) := Lib.hid (by rw [HX.out, if_pos (.inl rfl), HE1.out _ _ (by decide)])
    go_enter Try.func115, Try.ntmps115
    go_wp2_with fail
    go_ret
    exact ⟨(by rw [HF.out] <;> rfl), HK.out⟩
  | true =>
    by_cases hxn : x = nd
    rotate_left
    · have hxb : ((x : Int) != (nd : Int)) = true := by simpa using hxn
      have HF : Hid (endE r cep = 7) := Lib.hid (by rw [HX.out, if_pos (.inr hxn), HE1.out _ _ (by decide)])
      clear hxn
      go_enter Try.func115, Try.ntmps115
      go_wp2_with fail
      go_ret
      exact ⟨(by rw [HF.out] <;> rfl), HK.out⟩
    subst hxn
    have HX' : Hid (r = 0) := Lib.hid (by rw [HX.out, if_neg (by simp)])
    by_cases ht : cep = topE
    · have HF : Hid (endE r cep = 9) := Lib.hid (by rw [HX'.out, HE0.out, if_pos ht])
      have htb : ((cep : Int) == 18446744073709551615) = true := by rw [ht]; rfl
      clear ht
      go_enter Try.func115, Try.ntmps115
      go_wp2_with fail
      go_ret
      exact ⟨(by rw [HF.out] <;> rfl), HK.out⟩
    · have HF : Hid (endE r cep = 0) := Lib.hid (by rw [HX'.out, HE0.out, if_neg ht])
      have htb : ((cep : Int) == 18446744073709551615) = false := by
        have : cep ≠ 18446744073709551615 := ht
        simpa using this
      clear ht
      go_enter Try.func115, Try.ntmps115
      go_wp2_with fail
      go_ret
      exact ⟨(by rw [HF.out] <;> rfl), HK.out⟩

end Go.Proofs.Ytidhaofojcdbaaa
namespace Go.Proofs.Ytidhaofojcdbaaa
open Go.RowKit
set_option linter.unusedVariables false

theorem RAll_yes (v : Value) (l : List Cf) (F : Nat → Prop) (w : World) (h : CfsAt w F v l) (hl : l.length ≤ 1000) (hA : AllC l) : Calls Try.prog 114 #[v] w (BoolE true w) := by
  have := RAll_any v l F w h hl
  rwa [show allB l = true from decide_eq_true hA] at this
theorem RAll_no (v : Value) (l : List Cf) (F : Nat → Prop) (w : World) (h : CfsAt w F v l) (hl : l.length ≤ 1000) (hA : ¬ AllC l) : Calls Try.prog 114 #[v] w (BoolE false w) := by
  have := RAll_any v l F w h hl
  rwa [show allB l = false from decide_eq_false hA] at this
set_option maxRecDepth 100000 in
set_option maxHeartbeats 4000000 in
theorem RCan_1 (v : Value) (l : List Cf) (ch : Nat) (ep nd : Int) (F : Nat → Prop) (w : World) (h : CfsAt w F v l) (hlen : l.length ≤ 1000) (hA : AllC l) (hx : Chk 1 ch ep nd 0) (hep : 0 ≤ ep) (hch : ch < l.length) (he : ep = (nthC l ch).ep) :
    Calls Try.prog 81 #[v, .agg #[.int .i64 1, .int .i64 ch, .int .u64 ep, .int .i64 nd]] w (IntE (endE (canK l (nthC l ch) 1 nd) ep) w) := by
  obtain ⟨a, cap, rfl, _⟩ := id h
  have hl : l.length ≤ 9223372036854775807 := by omega
  have HA : Hid (∀ w', Kept NoB w w' → _) := Lib.hid (fun w' (hk : Kept NoB w w') => RAll_yes _ l F w' (h.kept hk (fun _ _ _ h => h)) hlen hA)
  have HX : Hid (∀ w, Calls Try.prog 77 #[.agg #[.int .i64 1, .int .i64 ch, .int .u64 ep, .int .i64 nd]] w fun e w' => e = .returned (.int .i64 0) ∧ Kept NoB w w') :=
    Lib.hid (fun w => (RCheck_any 1 ch ep nd w hep).mono (by rintro e w' ⟨y, hy, rfl, hk⟩; exact ⟨by rw [hy.one hx], hk⟩))
  have H := Lib.hid h
  obtain ⟨b, o, rfl, _, _, u, e0, e1, e2, e3, e4, hns, hbd⟩ := h.at_ hch
  obtain ⟨ua, uc, rfl, _⟩ := id hns
  have hcv := cf_eta _ _ _ _ hns hbd
  have hn1 : 1 ≤ (nthC l ch).ns.length := (hA.2.2 ch hch).1.2.2.2.1
  have hn5 : (nthC l ch).ns.length ≤ 5 := (hA.2.2 ch hch).1.2.2.2.2.1
  have HC : Hid (∀ w', Kept NoB w w' → _) := Lib.hid (fun w' (hk : Kept NoB w w') => rcan_1 (.slice (some ⟨b, o, none⟩) l.length cap) _ l (nthC l ch) ch ep nd F F w' (h.kept hk (fun _ _ _ h => h)) (hcv.kept hk (fun _ _ _ h => h)) hn1 hn5)
  obtain ⟨r, hr⟩ : ∃ r, r = endE (canK l (nthC l ch) 1 nd) ep := ⟨_, rfl⟩
  rw [← he, ← hr] at HC
  rw [← hr]
  obtain ⟨c, hc⟩ : ∃ c, c = nthC l ch := ⟨_, rfl⟩
  rw [← hc] at e0 e1 e2 e3 e4 he HC
  obtain ⟨cch, cep, ns, fr, jn⟩ := c
  simp only at e0 e1 e2 e3 e4 he HC
  subst he
  have hk1 : (ch : Int) < (l.length : Int) := by omega
  have hk0 : (0 : Int) ≤ (ch : Int) := by omega
  have hge : decide ((l.length : Int) ≤ (ch : Int)) = false := decide_eq_false (by omega)
  have HB := Lib.hid (heap_alloc_new w (.cells #[.int .i64 1, .int .i64 (ch : Int), .int .u64 ep, .int .i64 nd] 39))
  have HK := Lib.hid ((Kept.refl NoB w).alloc (.cells #[.int .i64 1, .int .i64 (ch : Int), .int .u64 ep, .int .i64 nd] 39))
  clear hA hx h hcv hns hbd hr hc hn1 hn5 hch hep
  have E := Lib.hid (And.intro e0 (And.intro e1 (And.intro e2 (And.intro e3 e4))))
  clear e0 e1 e2 e3 e4
  go_enter Try.func81, Try.ntmps81
  go_wp2_with fail
  refine (HA.out _ HK.out).mono ?_
  rintro e w1 ⟨rfl, hk⟩
  have HK1 := Lib.hid (HK.out.trans hk (fun _ _ h => h))
  have HB1 := Lib.hid (hk.heap (fun h => h) HB.out)
  obtain ⟨c0, c1, c2, c3⟩ := cells4c HB1.out
  clear hk
  go_wp2_with fail
  refine (HX.out _).mono ?_
  rintro e w2 ⟨rfl, hk⟩
  have HK2 := Lib.hid (HK1.out.trans hk (fun _ _ h => h))
  have HB2 := Lib.hid (hk.heap (fun h => h) HB1.out)
  clear hk c0 c1 c2 c3
  obtain ⟨c0, c1, c2, c3⟩ := cells4c HB2.out
  obtain ⟨g0, g1, g2, g3, g4⟩ := E.out
  have e0 := HK2.out.cell (p := ⟨b, o + ch * 5, none⟩) (fun h => h) g0
  have e1 := HK2.out.cell (p := ⟨b, o + ch * 5 + 1, none⟩) (fun h => h) g1
  have e2 := HK2.out.cell (p := ⟨b, o + ch * 5 + 2, none⟩) (fun h => h) g2
  have e3 := HK2.out.cell (p := ⟨b, o + ch * 5 + 3, none⟩) (fun h => h) g3
  have e4 := HK2.out.cell (p := ⟨b, o + ch * 5 + 4, none⟩) (fun h => h) g4
  clear g0 g1 g2 g3 g4
  go_wp2_with fail
  go_quiet (fail)
  go_wp2_with fail
  have HK3 := Lib.hid (HK2.out.drewN nq)
  obtain ⟨W, hW⟩ : ∃ W, W = w2.drewN nq := ⟨_, rfl⟩
  have hWk : Kept NoB w2 W := by rw [hW]; exact (Kept.refl _ _).drewN _
  rw [← hW] at HK3 ⊢
  have c0 := hWk.cell (p := ⟨w.heap.size, 0, none⟩) (fun h => h) c0
  have c1 := hWk.cell (p := ⟨w.heap.size, 1, none⟩) (fun h => h) c1
  have c2 := hWk.cell (p := ⟨w.heap.size, 2, none⟩) (fun h => h) c2
  have c3 := hWk.cell (p := ⟨w.heap.size, 3, none⟩) (fun h => h) c3
  have e0 := hWk.cell (p := ⟨b, o + ch * 5, none⟩) (fun h => h) e0
  have e1 := hWk.cell (p := ⟨b, o + ch * 5 + 1, none⟩) (fun h => h) e1
  have e2 := hWk.cell (p := ⟨b, o + ch * 5 + 2, none⟩) (fun h => h) e2
  have e3 := hWk.cell (p := ⟨b, o + ch * 5 + 3, none⟩) (fun h => h) e3
  have e4 := hWk.cell (p := ⟨b, o + ch * 5 + 4, none⟩) (fun h => h) e4
  clear hW hWk
  have HKc := Lib.hid (Kept.refl NoB W)
  go_region_held3 (fun w' => w'.cell? ⟨w.heap.size, 0, none⟩ = some (.int .i64 1) ∧ w'.cell? ⟨w.heap.size, 1, none⟩ = some (.int .i64 (ch : Int)) ∧ w'.cell? ⟨w.heap.size, 2, none⟩ = some (.int .u64 ep) ∧ w'.cell? ⟨w.heap.size, 3, none⟩ = some (.int .i64 nd) ∧ w'.cell? ⟨b, o + ch * 5, none⟩ = some (.int .i64 cch) ∧ w'.cell? ⟨b, o + ch * 5 + 1, none⟩ = some (.int .u64 ep) ∧ w'.cell? ⟨b, o + ch * 5 + 2, none⟩ = some (.slice ua ns.length uc) ∧ w'.cell? ⟨b, o + ch * 5 + 3, none⟩ = some (.bool fr) ∧ w'.cell? ⟨b, o + ch * 5 + 4, none⟩ = some (.int .i64 jn))
    (first
      | exact ⟨cell_drew c0, cell_drew c1, cell_drew c2, cell_drew c3, cell_drew e0, cell_drew e1, cell_drew e2, cell_drew e3, cell_drew e4⟩
      | exact ⟨HKc.out.cell (p := ⟨w.heap.size, 0, none⟩) (fun h => h) c0, HKc.out.cell (p := ⟨w.heap.size, 1, none⟩) (fun h => h) c1, HKc.out.cell (p := ⟨w.heap.size, 2, none⟩) (fun h => h) c2, HKc.out.cell (p := ⟨w.heap.size, 3, none⟩) (fun h => h) c3, HKc.out.cell (p := ⟨b, o + ch * 5, none⟩) (fun h => h) e0, HKc.out.cell (p := ⟨b, o + ch * 5 + 1, none⟩) (fun h => h) e1, HKc.out.cell (p := ⟨b, o + ch * 5 + 2, none⟩) (fun h => h) e2, HKc.out.cell (p := ⟨b, o + ch * 5 + 3, none⟩) (fun h => h) e3, HKc.out.cell (p := ⟨b, o + ch * 5 + 4, none⟩) (fun h => h) e4⟩
      | go_keep)
    ((go_at_call 115; refine (HC.out _ HK3.out.drew).mono ?_; rintro e w5 ⟨rfl, hk5⟩; replace HKc := Lib.hid (HKc.out.drew.trans hk5 (fun _ _ h => h)); clear hk5))
  all_goals
    have HKF := Lib.hid (HK3.out.trans HKc.out (fun _ _ h => h))
    clear c0 c1 c2 c3 e0 e1 e2 e3 e4
    go_wp2
    go_ret
    exact ⟨rfl, HKF.out⟩
set_option maxRecDepth 100000 in
set_option maxHeartbeats 4000000 in
theorem RCan_2 (v : Value) (l : List Cf) (ch : Nat) (ep nd : Int) (F : Nat → Prop) (w : World) (h : CfsAt w F v l) (hlen : l.length ≤ 1000) (hA : AllC l) (hx : Chk 2 ch ep nd 0) (hep : 0 ≤ ep) (hch : ch < l.length) (he : ep = (nthC l ch).ep) :
    Calls Try.prog 81 #[v, .agg #[.int .i64 2, .int .i64 ch, .int .u64 ep, .int .i64 nd]] w (IntE (endE (canK l (nthC l ch) 2 nd) ep) w) := by
  obtain ⟨a, cap, rfl, _⟩ := id h
  have hl : l.length ≤ 9223372036854775807 := by omega
  have HA : Hid (∀ w', Kept NoB w w' → _) := Lib.hid (fun w' (hk : Kept NoB w w') => RAll_yes _ l F w' (h.kept hk (fun _ _ _ h => h)) hlen hA)
  have HX : Hid (∀ w, Calls Try.prog 77 #[.agg #[.int .i64 2, .int .i64 ch, .int .u64 ep, .int .i64 nd]] w fun e w' => e = .returned (.int .i64 0) ∧ Kept NoB w w') :=
    Lib.hid (fun w => (RCheck_any 2 ch ep nd w hep).mono (by rintro e w' ⟨y, hy, rfl, hk⟩; exact ⟨by rw [hy.one hx], hk⟩))
  have H := Lib.hid h
  obtain ⟨b, o, rfl, _, _, u, e0, e1, e2, e3, e4, hns, hbd⟩ := h.at_ hch
  obtain ⟨ua, uc, rfl, _⟩ := id hns
  have hcv := cf_eta _ _ _ _ hns hbd
  have hn1 : 1 ≤ (nthC l ch).ns.length := (hA.2.2 ch hch).1.2.2.2.1
  have hn5 : (nthC l ch).ns.length ≤ 5 := (hA.2.2 ch hch).1.2.2.2.2.1
  have HC : Hid (∀ w', Kept NoB w w' → _) := Lib.hid (fun w' (hk : Kept NoB w w') => rcan_2 (.slice (some ⟨b, o, none⟩) l.length cap) _ l (nthC l ch) ch ep nd F F w' (h.kept hk (fun _ _ _ h => h)) (hcv.kept hk (fun _ _ _ h => h)) hn1 hn5)
  obtain ⟨r, hr⟩ : ∃ r, r = endE (canK l (nthC l ch) 2 nd) ep := ⟨_, rfl⟩
  rw [← he, ← hr] at HC
  rw [← hr]
  obtain ⟨c, hc⟩ : ∃ c, c = nthC l ch := ⟨_, rfl⟩
  rw [← hc] at e0 e1 e2 e3 e4 he HC
  obtain ⟨cch, cep, ns, fr, jn⟩ := c
  simp only at e0 e1 e2 e3 e4 he HC
  subst he
  have hk1 : (ch : Int) < (l.length : Int) := by omega
  have hk0 : (0 : Int) ≤ (ch : Int) := by omega
  have hge : decide ((l.length : Int) ≤ (ch : Int)) = false := decide_eq_false (by omega)
  have HB := Lib.hid (heap_alloc_new w (.cells #[.int .i64 2, .int .i64 (ch : Int), .int .u64 ep, .int .i64 nd] 39))
  have HK := Lib.hid ((Kept.refl NoB w).alloc (.cells #[.int .i64 2, .int .i64 (ch : Int), .int .u64 ep, .int .i64 nd] 39))
  clear hA hx h hcv hns hbd hr hc hn1 hn5 hch hep
  have E := Lib.hid (And.intro e0 (And.intro e1 (And.intro e2 (And.intro e3 e4))))
  clear e0 e1 e2 e3 e4
  go_enter Try.func81, Try.ntmps81
  go_wp2_with fail
  refine (HA.out _ HK.out).mono ?_
  rintro e w1 ⟨rfl, hk⟩
  have HK1 := Lib.hid (HK.out.trans hk (fun _ _ h => h))
  have HB1 := Lib.hid (hk.heap (fun h => h) HB.out)
  obtain ⟨c0, c1, c2, c3⟩ := cells4c HB1.out
  clear hk
  go_wp2_with fail
  refine (HX.out _).mono ?_
  rintro e w2 ⟨rfl, hk⟩
  have HK2 := Lib.hid (HK1.out.trans hk (fun _ _ h => h))
  have HB2 := Lib.hid (hk.heap (fun h => h) HB1.out)
  clear hk c0 c1 c2 c3
  obtain ⟨c0, c1, c2, c3⟩ := cells4c HB2.out
  obtain ⟨g0, g1, g2, g3, g4⟩ := E.out
  have e0 := HK2.out.cell (p := ⟨b, o + ch * 5, none⟩) (fun h => h) g0
  have e1 := HK2.out.cell (p := ⟨b, o + ch * 5 + 1, none⟩) (fun h => h) g1
  have e2 := HK2.out.cell (p := ⟨b, o + ch * 5 + 2, none⟩) (fun h => h) g2
  have e3 := HK2.out.cell (p := ⟨b, o + ch * 5 + 3, none⟩) (fun h => h) g3
  have e4 := HK2.out.cell (p := ⟨b, o + ch * 5 + 4, none⟩) (fun h => h) g4
  clear g0 g1 g2 g3 g4
  go_wp2_with fail
  go_quiet (fail)
  go_wp2_with fail
  have HK3 := Lib.hid (HK2.out.drewN nq)
  obtain ⟨W, hW⟩ : ∃ W, W = w2.drewN nq := ⟨_, rfl⟩
  have hWk : Kept NoB w2 W := by rw [hW]; exact (Kept.refl _ _).drewN _
  rw [← hW] at HK3 ⊢
  have c0 := hWk.cell (p := ⟨w.heap.size, 0, none⟩) (fun h => h) c0
  have c1 := hWk.cell (p := ⟨w.heap.size, 1, none⟩) (fun h => h) c1
  have c2 := hWk.cell (p := ⟨w.heap.size, 2, none⟩) (fun h => h) c2
  have c3 := hWk.cell (p := ⟨w.heap.size, 3, none⟩) (fun h => h) c3
  have e0 := hWk.cell (p := ⟨b, o + ch * 5, none⟩) (fun h => h) e0
  have e1 := hWk.cell (p := ⟨b, o + ch * 5 + 1, none⟩) (fun h => h) e1
  have e2 := hWk.cell (p := ⟨b, o + ch * 5 + 2, none⟩) (fun h => h) e2
  have e3 := hWk.cell (p := ⟨b, o + ch * 5 + 3, none⟩) (fun h => h) e3
  have e4 := hWk.cell (p := ⟨b, o + ch * 5 + 4, none⟩) (fun h => h) e4
  clear hW hWk
  have HKc := Lib.hid (Kept.refl NoB W)
  go_region_held3 (fun w' => w'.cell? ⟨w.heap.size, 0, none⟩ = some (.int .i64 2) ∧ w'.cell? ⟨w.heap.size, 1, none⟩ = some (.int .i64 (ch : Int)) ∧ w'.cell? ⟨w.heap.size, 2, none⟩ = some (.int .u64 ep) ∧ w'.cell? ⟨w.heap.size, 3, none⟩ = some (.int .i64 nd) ∧ w'.cell? ⟨b, o + ch * 5, none⟩ = some (.int .i64 cch) ∧ w'.cell? ⟨b, o + ch * 5 + 1, none⟩ = some (.int .u64 ep) ∧ w'.cell? ⟨b, o + ch * 5 + 2, none⟩ = some (.slice ua ns.length uc) ∧ w'.cell? ⟨b, o + ch * 5 + 3, none⟩ = some (.bool fr) ∧ w'.cell? ⟨b, o + ch * 5 + 4, none⟩ = some (.int .i64 jn))
    (first
      | exact ⟨cell_drew c0, cell_drew c1, cell_drew c2, cell_drew c3, cell_drew e0, cell_drew e1, cell_drew e2, cell_drew e3, cell_drew e4⟩
      | exact ⟨HKc.out.cell (p := ⟨w.heap.size, 0, none⟩) (fun h => h) c0, HKc.out.cell (p := ⟨w.heap.size, 1, none⟩) (fun h => h) c1, HKc.out.cell (p := ⟨w.heap.size, 2, none⟩) (fun h => h) c2, HKc.out.cell (p := ⟨w.heap.size, 3, none⟩) (fun h => h) c3, HKc.out.cell (p := ⟨b, o + ch * 5, none⟩) (fun h => h) e0, HKc.out.cell (p := ⟨b, o + ch * 5 + 1, none⟩) (fun h => h) e1, HKc.out.cell (p := ⟨b, o + ch * 5 + 2, none⟩) (fun h => h) e2, HKc.out.cell (p := ⟨b, o + ch * 5 + 3, none⟩) (fun h => h) e3, HKc.out.cell (p := ⟨b, o + ch * 5 + 4, none⟩) (fun h => h) e4⟩
      | go_keep)
    ((go_at_call 115; refine (HC.out _ HK3.out.drew).mono ?_; rintro e w5 ⟨rfl, hk5⟩; replace HKc := Lib.hid (HKc.out.drew.trans hk5 (fun _ _ h => h)); clear hk5))
  all_goals
    have HKF := Lib.hid (HK3.out.trans HKc.out (fun _ _ h => h))
    clear c0 c1 c2 c3 e0 e1 e2 e3 e4
    go_wp2
    go_ret
    exact ⟨rfl, HKF.out⟩
set_option maxRecDepth 100000 in
set_option maxHeartbeats 4000000 in
theorem RCan_3 (v : Value) (l : List Cf) (ch : Nat) (ep nd : Int) (F : Nat → Prop) (w : World) (h : CfsAt w F v l) (hlen : l.length ≤ 1000) (hA : AllC l) (hx : Chk 3 ch ep nd 0) (hep : 0 ≤ ep) (hch : ch < l.length) (he : ep = (nthC l ch).ep) :
    Calls Try.prog 81 #[v, .agg #[.int .i64 3, .int .i64 ch, .int .u64 ep, .int .i64 nd]] w (IntE (endE (canK l (nthC l ch) 3 nd) ep) w) := by
  obtain ⟨a, cap, rfl, _⟩ := id h
  have hl : l.length ≤ 9223372036854775807 := by omega
  have HA : Hid (∀ w', Kept NoB w w' → _) := Lib.hid (fun w' (hk : Kept NoB w w') => RAll_yes _ l F w' (h.kept hk (fun _ _ _ h => h)) hlen hA)
  have HX : Hid (∀ w, Calls Try.prog 77 #[.agg #[.int .i64 3, .int .i64 ch, .int .u64 ep, .int .i64 nd]] w fun e w' => e = .returned (.int .i64 0) ∧ Kept NoB w w') :=
    Lib.hid (fun w => (RCheck_any 3 ch ep nd w hep).mono (by rintro e w' ⟨y, hy, rfl, hk⟩; exact ⟨by rw [hy.one hx], hk⟩))
  have H := Lib.hid h
  obtain ⟨b, o, rfl, _, _, u, e0, e1, e2, e3, e4, hns, hbd⟩ := h.at_ hch
  obtain ⟨ua, uc, rfl, _⟩ := id hns
  have hcv := cf_eta _ _ _ _ hns hbd
  have hn1 : 1 ≤ (nthC l ch).ns.length := (hA.2.2 ch hch).1.2.2.2.1
  have hn5 : (nthC l ch).ns.length ≤ 5 := (hA.2.2 ch hch).1.2.2.2.2.1
  have HC : Hid (∀ w', Kept NoB w w' → _) := Lib.hid (fun w' (hk : Kept NoB w w') => rcan_3 (.slice (some ⟨b, o, none⟩) l.length cap) _ l (nthC l ch) ch ep nd F F w' (h.kept hk (fun _ _ _ h => h)) (hcv.kept hk (fun _ _ _ h => h)) hn1 hn5)
  obtain ⟨r, hr⟩ : ∃ r, r = endE (canK l (nthC l ch) 3 nd) ep := ⟨_, rfl⟩
  rw [← he, ← hr] at HC
  rw [← hr]
  obtain ⟨c, hc⟩ : ∃ c, c = nthC l ch := ⟨_, rfl⟩
  rw [← hc] at e0 e1 e2 e3 e4 he HC
  obtain ⟨cch, cep, ns, fr, jn⟩ := c
  simp only at e0 e1 e2 e3 e4 he HC
  subst he
  have hk1 : (ch : Int) < (l.length : Int) := by omega
  have hk0 : (0 : Int) ≤ (ch : Int) := by omega
  have hge : decide ((l.length : Int) ≤ (ch : Int)) = false := decide_eq_false (by omega)
  have HB := Lib.hid (heap_alloc_new w (.cells #[.int .i64 3, .int .i64 (ch : Int), .int .u64 ep, .int .i64 nd] 39))
  have HK := Lib.hid ((Kept.refl NoB w).alloc (.cells #[.int .i64 3, .int .i64 (ch : Int), .int .u64 ep, .int .i64 nd] 39))
  clear hA hx h hcv hns hbd hr hc hn1 hn5 hch hep
  have E := Lib.hid (And.intro e0 (And.intro e1 (And.intro e2 (And.intro e3 e4))))
  clear e0 e1 e2 e3 e4
  go_enter Try.func81, Try.ntmps81
  go_wp2_with fail
  refine (HA.out _ HK.out).mono ?_
  rintro e w1 ⟨rfl, hk⟩
  have HK1 := Lib.hid (HK.out.trans hk (fun _ _ h => h))
  have HB1 := Lib.hid (hk.heap (fun h => h) HB.out)
  obtain ⟨c0, c1, c2, c3⟩ := cells4c HB1.out
  clear hk
  go_wp2_with fail
  refine (HX.out _).mono ?_
  rintro e w2 ⟨rfl, hk⟩
  have HK2 := Lib.hid (HK1.out.trans hk (fun _ _ h => h))
  have HB2 := Lib.hid (hk.heap (fun h => h) HB1.out)
  clear hk c0 c1 c2 c3
  obtain ⟨c0, c1, c2, c3⟩ := cells4c HB2.out
  obtain ⟨g0, g1, g2, g3, g4⟩ := E.out
  have e0 := HK2.out.cell (p := ⟨b, o + ch * 5, none⟩) (fun h => h) g0
  have e1 := HK2.out.cell (p := ⟨b, o + ch * 5 + 1, none⟩) (fun h => h) g1
  have e2 := HK2.out.cell (p := ⟨b, o + ch * 5 + 2, none⟩) (fun h => h) g2
  have e3 := HK2.out.cell (p := ⟨b, o + ch * 5 + 3, none⟩) (fun h => h) g3
  have e4 := HK2.out.cell (p := ⟨b, o + ch * 5 + 4, none⟩) (fun h => h) g4
  clear g0 g1 g2 g3 g4
  go_wp2_with fail
  go_quiet (fail)
  go_wp2_with fail
  have HK3 := Lib.hid (HK2.out.drewN nq)
  obtain ⟨W, hW⟩ : ∃ W, W = w2.drewN nq := ⟨_, rfl⟩
  have hWk : Kept NoB w2 W := by rw [hW]; exact (Kept.refl _ _).drewN _
  rw [← hW] at HK3 ⊢
  have c0 := hWk.cell (p := ⟨w.heap.size, 0, none⟩) (fun h => h) c0
  have c1 := hWk.cell (p := ⟨w.heap.size, 1, none⟩) (fun h => h) c1
  have c2 := hWk.cell (p := ⟨w.heap.size, 2, none⟩) (fun h => h) c2
  have c3 := hWk.cell (p := ⟨w.heap.size, 3, none⟩) (fun h => h) c3
  have e0 := hWk.cell (p := ⟨b, o + ch * 5, none⟩) (fun h => h) e0
  have e1 := hWk.cell (p := ⟨b, o + ch * 5 + 1, none⟩) (fun h => h) e1
  have e2 := hWk.cell (p := ⟨b, o + ch * 5 + 2, none⟩) (fun h => h) e2
  have e3 := hWk.cell (p := ⟨b, o + ch * 5 + 3, none⟩) (fun h => h) e3
  have e4 := hWk.cell (p := ⟨b, o + ch * 5 + 4, none⟩) (fun h => h) e4
  clear hW hWk
  have HKc := Lib.hid (Kept.refl NoB W)
  go_region_held3 (fun w' => w'.cell? ⟨w.heap.size, 0, none⟩ = some (.int .i64 3) ∧ w'.cell? ⟨w.heap.size, 1, none⟩ = some (.int .i64 (ch : Int)) ∧ w'.cell? ⟨w.heap.size, 2, none⟩ = some (.int .u64 ep) ∧ w'.cell? ⟨w.heap.size, 3, none⟩ = some (.int .i64 nd) ∧ w'.cell? ⟨b, o + ch * 5, none⟩ = some (.int .i64 cch) ∧ w'.cell? ⟨b, o + ch * 5 + 1, none⟩ = some (.int .u64 ep) ∧ w'.cell? ⟨b, o + ch * 5 + 2, none⟩ = some (.slice ua ns.length uc) ∧ w'.cell? ⟨b, o + ch * 5 + 3, none⟩ = some (.bool fr) ∧ w'.cell? ⟨b, o + ch * 5 + 4, none⟩ = some (.int .i64 jn))
    (first
      | exact ⟨cell_drew c0, cell_drew c1, cell_drew c2, cell_drew c3, cell_drew e0, cell_drew e1, cell_drew e2, cell_drew e3, cell_drew e4⟩
      | exact ⟨HKc.out.cell (p := ⟨w.heap.size, 0, none⟩) (fun h => h) c0, HKc.out.cell (p := ⟨w.heap.size, 1, none⟩) (fun h => h) c1, HKc.out.cell (p := ⟨w.heap.size, 2, none⟩) (fun h => h) c2, HKc.out.cell (p := ⟨w.heap.size, 3, none⟩) (fun h => h) c3, HKc.out.cell (p := ⟨b, o + ch * 5, none⟩) (fun h => h) e0, HKc.out.cell (p := ⟨b, o + ch * 5 + 1, none⟩) (fun h => h) e1, HKc.out.cell (p := ⟨b, o + ch * 5 + 2, none⟩) (fun h => h) e2, HKc.out.cell (p := ⟨b, o + ch * 5 + 3, none⟩) (fun h => h) e3, HKc.out.cell (p := ⟨b, o + ch * 5 + 4, none⟩) (fun h => h) e4⟩
      | go_keep)
    ((go_at_call 115; refine (HC.out _ HK3.out.drew).mono ?_; rintro e w5 ⟨rfl, hk5⟩; replace HKc := Lib.hid (HKc.out.drew.trans hk5 (fun _ _ h => h)); clear hk5))
  all_goals
    have HKF := Lib.hid (HK3.out.trans HKc.out (fun _ _ h => h))
    clear c0 c1 c2 c3 e0 e1 e2 e3 e4
    go_wp2
    go_ret
    exact ⟨rfl, HKF.out⟩
set_option maxRecDepth 100000 in
set_option maxHeartbeats 4000000 in
theorem RCan_4 (v : Value) (l : List Cf) (ch : Nat) (ep nd : Int) (F : Nat → Prop) (w : World) (h : CfsAt w F v l) (hlen : l.length ≤ 1000) (hA : AllC l) (hx : Chk 4 ch ep nd 0) (hep : 0 ≤ ep) (hch : ch < l.length) (he : ep = (nthC l ch).ep) :
    Calls Try.prog 81 #[v, .agg #[.int .i64 4, .int .i64 ch, .int .u64 ep, .int .i64 nd]] w (IntE (endE (canK l (nthC l ch) 4 nd) ep) w) := by
  obtain ⟨a, cap, rfl, _⟩ := id h
  have hl : l.length ≤ 9223372036854775807 := by omega
  have HA : Hid (∀ w', Kept NoB w w' → _) := Lib.hid (fun w' (hk : Kept NoB w w') => RAll_yes _ l F w' (h.kept hk (fun _ _ _ h => h)) hlen hA)
  have HX : Hid (∀ w, Calls Try.prog 77 #[.agg #[.int .i64 4, .int .i64 ch, .int .u64 ep, .int .i64 nd]] w fun e w' => e = .returned (.int .i64 0) ∧ Kept NoB w w') :=
    Lib.hid (fun w => (RCheck_any 4 ch ep nd w hep).mono (by rintro e w' ⟨y, hy, rfl, hk⟩; exact ⟨by rw [hy.one hx], hk⟩))
  have H := Lib.hid h
  obtain ⟨b, o, rfl, _, _, u, e0, e1, e2, e3, e4, hns, hbd⟩ := h.at_ hch
  obtain ⟨ua, uc, rfl, _⟩ := id hns
  have hcv := cf_eta _ _ _ _ hns hbd
  have hn1 : 1 ≤ (nthC l ch).ns.length := (hA.2.2 ch hch).1.2.2.2.1
  have hn5 : (nthC l ch).ns.length ≤ 5 := (hA.2.2 ch hch).1.2.2.2.2.1
  have HC : Hid (∀ w', Kept NoB w w' → _) := Lib.hid (fun w' (hk : Kept NoB w w') => rcan_4 (.slice (some ⟨b, o, none⟩) l.length cap) _ l (nthC l ch) ch ep nd F F w' (h.kept hk (fun _ _ _ h => h)) (hcv.kept hk (fun _ _ _ h => h)) hn1 hn5)
  obtain ⟨r, hr⟩ : ∃ r, r = endE (canK l (nthC l ch) 4 nd) ep := ⟨_, rfl⟩
  rw [← he, ← hr] at HC
  rw [← hr]
  obtain ⟨c, hc⟩ : ∃ c, c = nthC l ch := ⟨_, rfl⟩
  rw [← hc] at e0 e1 e2 e3 e4 he HC
  obtain ⟨cch, cep, ns, fr, jn⟩ := c
  simp only at e0 e1 e2 e3 e4 he HC
  subst he
  have hk1 : (ch : Int) < (l.length : Int) := by omega
  have hk0 : (0 : Int) ≤ (ch : Int) := by omega
  have hge : decide ((l.length : Int) ≤ (ch : Int)) = false := decide_eq_false (by omega)
  have HB := Lib.hid (heap_alloc_new w (.cells #[.int .i64 4, .int .i64 (ch : Int), .int .u64 ep, .int .i64 nd] 39))
  have HK := Lib.hid ((Kept.refl NoB w).alloc (.cells #[.int .i64 4, .int .i64 (ch : Int), .int .u64 ep, .int .i64 nd] 39))
  clear hA hx h hcv hns hbd hr hc hn1 hn5 hch hep
  have E := Lib.hid (And.intro e0 (And.intro e1 (And.intro e2 (And.intro e3 e4))))
  clear e0 e1 e2 e3 e4
  go_enter Try.func81, Try.ntmps81
  go_wp2_with fail
  refine (HA.out _ HK.out).mono ?_
  rintro e w1 ⟨rfl, hk⟩
  have HK1 := Lib.hid (HK.out.trans hk (fun _ _ h => h))
  have HB1 := Lib.hid (hk.heap (fun h => h) HB.out)
  obtain ⟨c0, c1, c2, c3⟩ := cells4c HB1.out
  clear hk
  go_wp2_with fail
  refine (HX.out _).mono ?_
  rintro e w2 ⟨rfl, hk⟩
  have HK2 := Lib.hid (HK1.out.trans hk (fun _ _ h => h))
  have HB2 := Lib.hid (hk.heap (fun h => h) HB1.out)
  clear hk c0 c1 c2 c3
  obtain ⟨c0, c1, c2, c3⟩ := cells4c HB2.out
  obtain ⟨g0, g1, g2, g3, g4⟩ := E.out
  have e0 := HK2.out.cell (p := ⟨b, o + ch * 5, none⟩) (fun h => h) g0
  have e1 := HK2.out.cell (p := ⟨b, o + ch * 5 + 1, none⟩) (fun h => h) g1
  have e2 := HK2.out.cell (p := ⟨b, o + ch * 5 + 2, none⟩) (fun h => h) g2
  have e3 := HK2.out.cell (p := ⟨b, o + ch * 5 + 3, none⟩) (fun h => h) g3
  have e4 := HK2.out.cell (p := ⟨b, o + ch * 5 + 4, none⟩) (fun h => h) g4
  clear g0 g1 g2 g3 g4
  go_wp2_with fail
  go_quiet (fail)
  go_wp2_with fail
  have HK3 := Lib.hid (HK2.out.drewN nq)
  obtain ⟨W, hW⟩ : ∃ W, W = w2.drewN nq := ⟨_, rfl⟩
  have hWk : Kept NoB w2 W := by rw [hW]; exact (Kept.refl _ _).drewN _
  rw [← hW] at HK3 ⊢
  have c0 := hWk.cell (p := ⟨w.heap.size, 0, none⟩) (fun h => h) c0
  have c1 := hWk.cell (p := ⟨w.heap.size, 1, none⟩) (fun h => h) c1
  have c2 := hWk.cell (p := ⟨w.heap.size, 2, none⟩) (fun h => h) c2
  have c3 := hWk.cell (p := ⟨w.heap.size, 3, none⟩) (fun h => h) c3
  have e0 := hWk.cell (p := ⟨b, o + ch * 5, none⟩) (fun h => h) e0
  have e1 := hWk.cell (p := ⟨b, o + ch * 5 + 1, none⟩) (fun h => h) e1
  have e2 := hWk.cell (p := ⟨b, o + ch * 5 + 2, none⟩) (fun h => h) e2
  have e3 := hWk.cell (p := ⟨b, o + ch * 5 + 3, none⟩) (fun h => h) e3
  have e4 := hWk.cell (p := ⟨b, o + ch * 5 + 4, none⟩) (fun h => h) e4
  clear hW hWk
  have HKc := Lib.hid (Kept.refl NoB W)
  go_region_held3 (fun w' => w'.cell? ⟨w.heap.size, 0, none⟩ = some (.int .i64 4) ∧ w'.cell? ⟨w.heap.size, 1, none⟩ = some (.int .i64 (ch : Int)) ∧ w'.cell? ⟨w.heap.size, 2, none⟩ = some (.int .u64 ep) ∧ w'.cell? ⟨w.heap.size, 3, none⟩ = some (.int .i64 nd) ∧ w'.cell? ⟨b, o + ch * 5, none⟩ = some (.int .i64 cch) ∧ w'.cell? ⟨b, o + ch * 5 + 1, none⟩ = some (.int .u64 ep) ∧ w'.cell? ⟨b, o + ch * 5 + 2, none⟩ = some (.slice ua ns.length uc) ∧ w'.cell? ⟨b, o + ch * 5 + 3, none⟩ = some (.bool fr) ∧ w'.cell? ⟨b, o + ch * 5 + 4, none⟩ = some (.int .i64 jn))
    (first
      | exact ⟨cell_drew c0, cell_drew c1, cell_drew c2, cell_drew c3, cell_drew e0, cell_drew e1, cell_drew e2, cell_drew e3, cell_drew e4⟩
      | exact ⟨HKc.out.cell (p := ⟨w.heap.size, 0, none⟩) (fun h => h) c0, HKc.out.cell (p := ⟨w.heap.size, 1, none⟩) (fun h => h) c1, HKc.out.cell (p := ⟨w.heap.size, 2, none⟩) (fun h => h) c2, HKc.out.cell (p := ⟨w.heap.size, 3, none⟩) (fun h => h) c3, HKc.out.cell (p := ⟨b, o + ch * 5, none⟩) (fun h => h) e0, HKc.out.cell (p := ⟨b, o + ch * 5 + 1, none⟩) (fun h => h) e1, HKc.out.cell (p := ⟨b, o + ch * 5 + 2, none⟩) (fun h => h) e2, HKc.out.cell (p := ⟨b, o + ch * 5 + 3, none⟩) (fun h => h) e3, HKc.out.cell (p := ⟨b, o + ch * 5 + 4, none⟩) (fun h => h) e4⟩
      | go_keep)
    ((go_at_call 115; refine (HC.out _ HK3.out.drew).mono ?_; rintro e w5 ⟨rfl, hk5⟩; replace HKc := Lib.hid (HKc.out.drew.trans hk5 (fun _ _ h => h)); clear hk5))
  all_goals
    have HKF := Lib.hid (HK3.out.trans HKc.out (fun _ _ h => h))
    clear c0 c1 c2 c3 e0 e1 e2 e3 e4
    go_wp2
    go_ret
    exact ⟨rfl, HKF.out⟩
set_option maxRecDepth 100000 in
set_option maxHeartbeats 2000000 in
theorem RCan_any (v : Value) (l : List Cf) (e0 k ch ep nd : Int) (F : Nat → Prop) (w : World) (h : CfsAt w F v l) (hlen : l.length ≤ 1000) (hx : Chk k ch ep nd e0) (hep : 0 ≤ ep) :
    Calls Try.prog 81 #[v, cmdv k ch ep nd] w (IntE (canC l e0 k ch ep nd) w) := by
  obtain ⟨a, cap, rfl, _⟩ := id h
  have hl : l.length ≤ 9223372036854775807 := by have := h.len; unfold maxLen at this; omega
  have HX : Hid (∀ w, Calls Try.prog 77 #[.agg #[.int .i64 k, .int .i64 ch, .int .u64 ep, .int .i64 nd]] w fun e w' => e = .returned (.int .i64 e0) ∧ Kept NoB w w') :=
    Lib.hid (fun w => (RCheck_any k ch ep nd w hep).mono (by rintro e w' ⟨y, hy, rfl, hk⟩; exact ⟨by rw [hy.one hx], hk⟩))
  have HB := Lib.hid (heap_alloc_new w (.cells #[.int .i64 k, .int .i64 ch, .int .u64 ep, .int .i64 nd] 39))
  have HK := Lib.hid ((Kept.refl NoB w).alloc (.cells #[.int .i64 k, .int .i64 ch, .int .u64 ep, .int .i64 nd] 39))
  by_cases hA : AllC l
  rotate_left
  · have HE : Hid (canC l e0 k ch ep nd = 1) := Lib.hid (by unfold canC; rw [if_pos hA])
    have HN : Hid (∀ w', Kept NoB w w' → _) := Lib.hid (fun w' (hk : Kept NoB w w') => RAll_no _ l F w' (h.kept hk (fun _ _ _ h => h)) hlen hA)
    clear hA h hx
    go_enter Try.func81, Try.ntmps81
    go_wp2_with fail
    refine (HN.out _ HK.out).mono ?_
    rintro e w1 ⟨rfl, hk⟩
    have HK1 := Lib.hid (HK.out.trans hk (fun _ _ h => h))
    clear hk
    go_wp2
    go_ret
    exact ⟨(by rw [HE.out] <;> rfl), HK1.out⟩
  have HN : Hid (∀ w', Kept NoB w w' → _) := Lib.hid (fun w' (hk : Kept NoB w w') => RAll_yes _ l F w' (h.kept hk (fun _ _ _ h => h)) hlen hA)
  by_cases h0 : e0 = 0
  rotate_left
  · have HE : Hid (canC l e0 k ch ep nd = e0) := Lib.hid (by unfold canC; rw [if_neg (fun x => x hA), if_pos h0])
    have h0b : ((e0 : Int) != 0) = true := by simpa using h0
    clear hA h hx h0
    go_enter Try.func81, Try.ntmps81
    go_wp2_with fail
    refine (HN.out _ HK.out).mono ?_
    rintro e w1 ⟨rfl, hk⟩
    have HK1 := Lib.hid (HK.out.trans hk (fun _ _ h => h))
    obtain ⟨c0, c1, c2, c3⟩ := cells4c (hk.heap (fun h => h) HB.out)
    clear hk
    go_wp2_with fail
    refine (HX.out _).mono ?_
    rintro e w2 ⟨rfl, hk⟩
    have HK2 := Lib.hid (HK1.out.trans hk (fun _ _ h => h))
    clear hk c0 c1 c2 c3
    go_wp2
    go_ret
    exact ⟨(by rw [HE.out] <;> rfl), HK2.out⟩
  subst h0
  have hV := Chk.ok.1 hx
  unfold Vld at hV
  by_cases hk0 : k = 0
  · subst hk0
    have HE : Hid (canC l 0 0 ch ep nd = 0) := Lib.hid (by unfold canC; rw [if_neg (fun x => x hA), if_neg (by decide), if_pos rfl])
    clear hA h hx hV
    go_enter Try.func81, Try.ntmps81
    go_wp2_with fail
    refine (HN.out _ HK.out).mono ?_
    rintro e w1 ⟨rfl, hk⟩
    have HK1 := Lib.hid (HK.out.trans hk (fun _ _ h => h))
    have HB1 := Lib.hid (hk.heap (fun h => h) HB.out)
    obtain ⟨c0, c1, c2, c3⟩ := cells4c HB1.out
    clear hk
    go_wp2_with fail
    refine (HX.out _).mono ?_
    rintro e w2 ⟨rfl, hk⟩
    have HK2 := Lib.hid (HK1.out.trans hk (fun _ _ h => h))
    have d0 := (cells4c (hk.heap (fun h => h) HB1.out)).1
    clear hk c0 c1 c2 c3
    go_wp2
    go_ret
    exact ⟨(by rw [HE.out] <;> rfl), HK2.out⟩
  obtain ⟨hk1, hk4, hch0, hch3, hep1, hnd1, hnd2⟩ : 1 ≤ k ∧ k ≤ 4 ∧ 0 ≤ ch ∧ ch ≤ 3 ∧ 1 ≤ ep ∧ 1 ≤ nd ∧ nd ≤ 24 := by
    rcases hV with ⟨h, _⟩ | h
    · exact absurd h hk0
    · exact h
  have hkb : ((k : Int) == 0) = false := by simpa using hk0
  by_cases hlc : (l.length : Int) ≤ ch
  · have HE : Hid (canC l 0 k ch ep nd = 7) := Lib.hid (by unfold canC; rw [if_neg (fun x => x hA), if_neg (by decide), if_neg hk0, if_pos hlc])
    have hge : decide ((l.length : Int) ≤ ch) = true := decide_eq_true hlc
    clear hA h hx hV hk0 hlc
    go_enter Try.func81, Try.ntmps81
    go_wp2_with fail
    refine (HN.out _ HK.out).mono ?_
    rintro e w1 ⟨rfl, hk⟩
    have HK1 := Lib.hid (HK.out.trans hk (fun _ _ h => h))
    have HB1 := Lib.hid (hk.heap (fun h => h) HB.out)
    obtain ⟨c0, c1, c2, c3⟩ := cells4c HB1.out
    clear hk
    go_wp2_with fail
    refine (HX.out _).mono ?_
    rintro e w2 ⟨rfl, hk⟩
    have HK2 := Lib.hid (HK1.out.trans hk (fun _ _ h => h))
    obtain ⟨d0, d1, _, _⟩ := cells4c (hk.heap (fun h => h) HB1.out)
    clear hk c0 c1 c2 c3
    go_wp2
    go_ret
    exact ⟨(by rw [HE.out] <;> rfl), HK2.out⟩
  obtain ⟨j, rfl⟩ := Int.eq_ofNat_of_zero_le hch0
  have hj : j < l.length := by omega
  have ejn : ((j : Int)).toNat = j := by omega
  by_cases hee : ep = (nthC l j).ep
  · have HE : canC l 0 k j ep nd = endE (canK l (nthC l j) k nd) ep := by
      unfold canC endE
      rw [if_neg (fun x => x hA), if_neg (by decide), if_neg hk0, if_neg hlc, ejn, if_neg (fun x => x hee), ← hee]
    rw [HE]
    rcases (by omega : k = 1 ∨ k = 2 ∨ k = 3 ∨ k = 4) with rfl | rfl | rfl | rfl
    · exact RCan_1 _ l j ep nd F w h hlen hA hx hep hj hee
    · exact RCan_2 _ l j ep nd F w h hlen hA hx hep hj hee
    · exact RCan_3 _ l j ep nd F w h hlen hA hx hep hj hee
    · exact RCan_4 _ l j ep nd F w h hlen hA hx hep hj hee
  · have HE : Hid (canC l 0 k j ep nd = 10) := Lib.hid (by unfold canC; rw [if_neg (fun x => x hA), if_neg (by decide), if_neg hk0, if_neg hlc, ejn, if_pos hee])
    obtain ⟨b, o, rfl, _, _, u, e0, e1, e2, e3, e4, hns, hbd⟩ := h.at_ hj
    obtain ⟨ua, uc, rfl, _⟩ := id hns
    obtain ⟨c, hc⟩ : ∃ c, c = nthC l j := ⟨_, rfl⟩
    rw [← hc] at e0 e1 e2 e3 e4 hee
    obtain ⟨cch, cep, ns, fr, jn⟩ := c
    simp only at e0 e1 e2 e3 e4 hee
    have heb : ((cep : Int) != (ep : Int)) = true := by simpa using (fun h => hee h.symm)
    have hk1' : (j : Int) < (l.length : Int) := by omega
    have hge : decide ((l.length : Int) ≤ (j : Int)) = false := decide_eq_false (by omega)
    have E := Lib.hid (And.intro e0 (And.intro e1 (And.intro e2 (And.intro e3 e4))))
    clear hA h hx hV hk0 hlc hee hc hns hbd e0 e1 e2 e3 e4
    go_enter Try.func81, Try.ntmps81
    go_wp2_with fail
    refine (HN.out _ HK.out).mono ?_
    rintro e w1 ⟨rfl, hk⟩
    have HK1 := Lib.hid (HK.out.trans hk (fun _ _ h => h))
    have HB1 := Lib.hid (hk.heap (fun h => h) HB.out)
    obtain ⟨c0, c1, c2, c3⟩ := cells4c HB1.out
    clear hk
    go_wp2_with fail
    refine (HX.out _).mono ?_
    rintro e w2 ⟨rfl, hk⟩
    have HK2 := Lib.hid (HK1.out.trans hk (fun _ _ h => h))
    have HB2 := Lib.hid (hk.heap (fun h => h) HB1.out)
    clear hk c0 c1 c2 c3
    obtain ⟨c0, c1, c2, c3⟩ := cells4c HB2.out
    obtain ⟨g0, g1, g2, g3, g4⟩ := E.out
    have e0 := HK2.out.cell (p := ⟨b, o + j * 5, none⟩) (fun h => h) g0
    have e1 := HK2.out.cell (p := ⟨b, o + j * 5 + 1, none⟩) (fun h => h) g1
    have e2 := HK2.out.cell (p := ⟨b, o + j * 5 + 2, none⟩) (fun h => h) g2
    have e3 := HK2.out.cell (p := ⟨b, o + j * 5 + 3, none⟩) (fun h => h) g3
    have e4 := HK2.out.cell (p := ⟨b, o + j * 5 + 4, none⟩) (fun h => h) g4
    have hlt2 := heap_lt HB2.out
    clear g0 g1 g2 g3 g4
    have hk0' : (0 : Int) ≤ (j : Int) := by omega
    go_wp2
    go_quiet (fail)
    go_wp2
    go_ret
    exact ⟨(by rw [HE.out] <;> rfl), HK2.out.drewN _⟩
end Go.Proofs.Ytidhaofojcdbaaa
namespace Go.Proofs.Ytidhaofojcdbaaa
open Go.RowKit
set_option linter.unusedVariables false

theorem bother {w : World} {g k : Nat} {o : Obj} (h : w.heap[g]? = some o) (i : Nat) (u : Value) (hk : k ≠ g) :
    (w.setCell ⟨k, i, none⟩ u).heap[g]? = some o := by simp [World.setCell, Array.getElem?_modify, h, hk]
theorem bset5 {w : World} {g : Nat} {cs : Array Value} {t : TypeId} {fr : Nat × Nat} (h : w.heap[g]? = some (.cells cs t fr)) (i : Nat) (u : Value) :
    (w.setCell ⟨g, i, none⟩ u).heap[g]? = some (.cells (cs.setIfInBounds i u) t fr) := by simp [World.setCell, Array.getElem?_modify, h]
theorem frz5 {w : World} {b : Nat} {cs : Array Value} {t : TypeId} (h : w.heap[b]? = some (.cells cs t (0, 0))) : w.frozen? ⟨b, 0, none⟩ = false ∧ w.frozen? ⟨b, 1, none⟩ = false ∧ w.frozen? ⟨b, 2, none⟩ = false ∧ w.frozen? ⟨b, 3, none⟩ = false ∧ w.frozen? ⟨b, 4, none⟩ = false := by
  refine ⟨?_, ?_, ?_, ?_, ?_⟩ <;> simp [World.frozen?, h]
theorem grown_blk {w w' : World} (hg : w.grownBy w' none) {g : Nat} {o : Obj} (h : w.heap[g]? = some o) : w'.heap[g]? = some o := (hg.block g (heap_lt h) (by simp)).trans h
theorem IOwn.ne {B : Nat} {w : World} {v : Value} {l : List Int} (h : IOwn B w v l) {g : Nat} {cs : Array Value} {t : TypeId} {fr : Nat × Nat} (hc : w.heap[g]? = some (.cells cs t fr)) (ht : t ≠ 3) : ∀ k, v.ownBlock = some k → k ≠ g := by
  intro k hk e
  subst e
  exact own_ne h hc (fun e => ht e.symm) hk.symm
/-- append of a slice to no slice: a row of the call's own. -/
theorem step_append_nil (w : World) {ops : Array Oper} {o : Oper} {a : Act} {K : Act → World → Prop} {Q : Exit → Act → World → Prop} {E : Prop} (hgd : o.guard = none) (s x : Operand)
    (ho : o.op = .call { callee := .builtin .append, args := #[s, x], argTypes := #[82, 82] })
    (base : Nat) (hs : a.eval s = .slice none 0 0) (F : Nat → Prop) (y : Value) (l : List Int) (hx : a.eval x = y) (hy : NSl w F y l) (hl : l.length ≤ 100000) (hbase : base ≤ w.heap.size)
    (h : ∀ a' c' w', IOwn base w' (.slice a' l.length c') l → w.grownBy w' none → K (a.put o.dst (.slice a' l.length c')) w') :
    if Region.wanted o (yielded ops a.tmps) = true then Oper.wp Try.prog o a w K Q else E :=
  step_append_nsl w hgd s x ho base (.slice none 0 0) [] hs (IOwn.nil _ _) F y l hx hy (by simpa using hl) hbase (fun a' c' w' h1 h2 _ => by
    simp only [List.length_nil, Nat.zero_add, List.nil_append] at h1 ⊢
    exact h a' c' w' h1 h2)
/-- append of one number that lies in a block. -/
theorem wpList_append_onei (w : World) {ops : Array Oper} {rest : List Oper} {o : Oper} {a : Act} {Q : Exit → Act → World → Prop} (hgd : o.guard = none) (s x : Operand)
    (ho : o.op = .call { callee := .builtin .append, args := #[s, x], argTypes := #[82, 82] })
    (base : Nat) (v : Value) (cs : List Int) (hs : a.eval s = v) (hown : IOwn base w v cs) (b : Nat) (y : Int) (hx : a.eval x = .slice (some ⟨b, 0, none⟩) 1 1) (hb : w.heap[b]? = some (.cells #[.int .i64 y] 3 (0, 0))) (hl : cs.length ≤ 10000) (hbase : base ≤ w.heap.size)
    (h : ∀ a' c' w', IOwn base w' (.slice a' (cs.length + 1) c') (cs ++ [y]) → w.grownBy w' v.ownBlock → wpList Try.prog ops Q rest (a.put o.dst (.slice a' (cs.length + 1) c')) w') : wpList Try.prog ops Q (o :: rest) a w :=
  wpList_append_nsl w hgd s x ho base v cs hs hown (fun _ => True) _ [y] hx (nsl_one hb) (by simp; omega) hbase (fun a' c' w' h1 h2 _ => h a' c' w' h1 h2)
def MadeE (c : Cf) (w : World) (e : Ending) (w' : World) : Prop := ∃ v, e = .returned v ∧ CfV w' (fun k => w.heap.size ≤ k) v c ∧ Kept NoB w w'
/-- What the first region leaves: the new configuration's variable. -/
def MdCut (W : World) (ch ep : Int) (ns : List Int) (fr : Bool) (jn : Int) (x5 : Value) (wc : World) : Prop :=
  ∃ (s5 : Nat) (a1 : Option Addr) (cp1 : Nat), x5 = .pointer (some ⟨s5, 0, none⟩) ∧ wc.heap[s5]? = some (.cells #[.int .i64 ch, .int .u64 (ep + 1), .slice a1 ns.length cp1, .bool fr, .int .i64 jn] 84 (0, 0)) ∧
    IOwn W.heap.size wc (.slice a1 ns.length cp1) ns ∧ W.heap.size ≤ s5 ∧ Kept NoB W wc
set_option maxRecDepth 100000 in
set_option maxHeartbeats 4000000 in
theorem made_any (v : Value) (c : Cf) (kd ch ep nd : Int) (F : Nat → Prop) (w : World) (h : CfV w F v c) (h1 : 1 ≤ c.ns.length) (h5 : c.ns.length ≤ 5) (he : c.ep ≠ topE) :
    Calls Try.prog 82 #[v, .agg #[.int .i64 kd, .int .i64 ch, .int .u64 ep, .int .i64 nd]] w (MadeE (madeC c kd nd) w) := by
  obtain ⟨u, rfl, hn, hb0, hbt, hnl⟩ := h
  obtain ⟨a, cap, rfl, _⟩ := id hn
  have hep1 : 0 ≤ c.ep + 1 := by omega
  have hep2 : c.ep + 1 ≤ topE := by omega
  have hkW : Kept NoB w (((w.alloc (.cells #[.int .i64 c.ch, .int .u64 c.ep, .slice a c.ns.length cap, .bool c.fr, .int .i64 c.jn] 84)).alloc (.cells #[.int .i64 kd, .int .i64 ch, .int .u64 ep, .int .i64 nd] 39)).alloc (.cells #[.int .i64 0, .int .u64 0, .slice none 0 0, .bool false, .int .i64 0] 84)) := (((Kept.refl NoB w).alloc _).alloc _).alloc _
  have HNW : Hid (∀ w', Kept NoB w w' → NSl w' F (.slice a c.ns.length cap) c.ns) := Lib.hid (fun w' hk => hn.kept hk (fun _ _ _ h => h))
  have hbx := balloc (balloc (heap_alloc_new w (.cells #[.int .i64 c.ch, .int .u64 c.ep, .slice a c.ns.length cap, .bool c.fr, .int .i64 c.jn] 84)) (.cells #[.int .i64 kd, .int .i64 ch, .int .u64 ep, .int .i64 nd] 39)) (.cells #[.int .i64 0, .int .u64 0, .slice none 0 0, .bool false, .int .i64 0] 84)
  have hz1 : (w.alloc (.cells #[.int .i64 c.ch, .int .u64 c.ep, .slice a c.ns.length cap, .bool c.fr, .int .i64 c.jn] 84)).heap.size = w.heap.size + 1 := by simp
  have hz2 : ((w.alloc (.cells #[.int .i64 c.ch, .int .u64 c.ep, .slice a c.ns.length cap, .bool c.fr, .int .i64 c.jn] 84)).alloc (.cells #[.int .i64 kd, .int .i64 ch, .int .u64 ep, .int .i64 nd] 39)).heap.size = w.heap.size + 2 := by simp
  have hcx := balloc (heap_alloc_new (w.alloc (.cells #[.int .i64 c.ch, .int .u64 c.ep, .slice a c.ns.length cap, .bool c.fr, .int .i64 c.jn] 84)) (.cells #[.int .i64 kd, .int .i64 ch, .int .u64 ep, .int .i64 nd] 39)) (.cells #[.int .i64 0, .int .u64 0, .slice none 0 0, .bool false, .int .i64 0] 84)
  have htx := heap_alloc_new ((w.alloc (.cells #[.int .i64 c.ch, .int .u64 c.ep, .slice a c.ns.length cap, .bool c.fr, .int .i64 c.jn] 84)).alloc (.cells #[.int .i64 kd, .int .i64 ch, .int .u64 ep, .int .i64 nd] 39)) (.cells #[.int .i64 0, .int .u64 0, .slice none 0 0, .bool false, .int .i64 0] 84)
  rw [hz1] at hcx
  rw [hz2] at htx
  have HMD := Lib.hid (show madeC c kd nd = madeC c kd nd from rfl)
  obtain ⟨R, hR⟩ : ∃ R, R = madeC c kd nd := ⟨_, rfl⟩
  have HR := Lib.hid hR
  have HLS : Hid (c.last = c.ns.getD (c.ns.length - 1) 0) := Lib.hid rfl
  rw [← hR]
  clear hR HMD
  obtain ⟨cch, cep, ns, fr, jn⟩ := c
  simp only at hnl hb0 hbt hep1 hep2 hbx hcx htx HNW HR h1 h5 he hkW HLS ⊢
  have hwr : IntKind.u64.wrap (cep + 1) = cep + 1 := IntWalk.u64_in _ (by unfold topE at hep2; omega)
  have HEB := Lib.hid (And.intro hep1 hep2)
  have HKW := Lib.hid hkW
  clear hz1 hz2 hn hkW hep1 hep2 hbt he
  go_enter Try.func82, Try.ntmps82
  go_wp2_with fail
  generalize ((w.alloc (.cells #[.int .i64 cch, .int .u64 cep, .slice a ns.length cap, .bool fr, .int .i64 jn] 84)).alloc (.cells #[.int .i64 kd, .int .i64 ch, .int .u64 ep, .int .i64 nd] 39)).alloc (.cells #[.int .i64 0, .int .u64 0, .slice none 0 0, .bool false, .int .i64 0] 84) = W at hbx hcx htx HKW ⊢
  obtain ⟨c0, c1, c2, c3, c4⟩ := cells5 hbx
  have HBX := Lib.hid hbx
  have HCX := Lib.hid hcx
  have HTX := Lib.hid htx
  have HSZ : Hid (w.heap.size + 2 < W.heap.size) := Lib.hid (heap_lt htx)
  clear hbx hcx htx
  have hq1 : ¬ W.heap.size = w.heap.size := fun h => by have := HSZ.out; omega
  have hq2 : ¬ w.heap.size = W.heap.size := fun h => hq1 h.symm
  have HKQ : Hid (Kept NoB W W.drew) := Lib.hid (Kept.refl NoB W).drew
  have HKQ2 : Hid (Kept NoB W (W.alloc (.cells #[.int .i64 0, .int .u64 0, .slice none 0 0, .bool false, .int .i64 0] 84)).drew) := Lib.hid ((Kept.refl NoB W).alloc _).drew
  have HZW : Hid ((W.alloc (.cells #[.int .i64 0, .int .u64 0, .slice none 0 0, .bool false, .int .i64 0] 84)).drew.heap[W.heap.size]? = some (.cells #[.int .i64 0, .int .u64 0, .slice none 0 0, .bool false, .int .i64 0] 84 (0, 0))) := Lib.hid (heap_alloc_new W _)
  have HN1 : Hid (NSl W.drew F (.slice a ns.length cap) ns) := Lib.hid (HNW.out _ (HKW.out.trans HKQ.out (fun _ _ h => h)))
  have HN2 : Hid (NSl (W.alloc (.cells #[.int .i64 0, .int .u64 0, .slice none 0 0, .bool false, .int .i64 0] 84)).drew F (.slice a ns.length cap) ns) := Lib.hid (HNW.out _ (HKW.out.trans HKQ2.out (fun _ _ h => h)))
  have hl5 : ns.length ≤ 100000 := by omega
  have HB1 : Hid (W.heap.size ≤ W.drew.heap.size) := Lib.hid HKQ.out.size
  have HB2 : Hid (W.heap.size ≤ (W.alloc (.cells #[.int .i64 0, .int .u64 0, .slice none 0 0, .bool false, .int .i64 0] 84)).drew.heap.size) := Lib.hid HKQ2.out.size
  go_cut [5] from 6 to 64 (MdCut W cch cep ns fr jn)
  case first =>
    go_region_held3 (fun w' => w'.cell? ⟨w.heap.size, 0, none⟩ = some (.int .i64 cch) ∧ w'.cell? ⟨w.heap.size, 1, none⟩ = some (.int .u64 cep) ∧ w'.cell? ⟨w.heap.size, 2, none⟩ = some (.slice a ns.length cap) ∧ w'.cell? ⟨w.heap.size, 3, none⟩ = some (.bool fr) ∧ w'.cell? ⟨w.heap.size, 4, none⟩ = some (.int .i64 jn))
      (first
        | (with_reducible exact ⟨cell_drew c0, cell_drew c1, cell_drew c2, cell_drew c3, cell_drew c4⟩)
        | (with_reducible exact ⟨cell_drew (cell_alloc c0 _), cell_drew (cell_alloc c1 _), cell_drew (cell_alloc c2 _), cell_drew (cell_alloc c3 _), cell_drew (cell_alloc c4 _)⟩)
        | (with_reducible exact ⟨k0, k1, k2, k3, k4⟩)
        | (with_reducible exact ⟨cell_alloc k0 _, cell_alloc k1 _, cell_alloc k2 _, cell_alloc k3 _, cell_alloc k4 _⟩)
        | go_keep)
      ((refine step_append_nil _ (by rfl) (.const (.slice none 0 0)) (.tmp 12) (by rfl) W.heap.size (by rfl) F (.slice a ns.length cap) ns (by rfl) (by first | (with_reducible exact HN1.out) | (with_reducible exact HN2.out)) hl5 (by first | (with_reducible exact HB1.out) | (with_reducible exact HB2.out)) ?_; intro a1 cp1 w1 hown1 hg1; have HO1 := Lib.hid hown1
        (first
          | (have HKA : Hid (Kept NoB W w1) := Lib.hid (HKQ.out.grown (by with_reducible exact hg1) (fun k hk => by cases hk)))
          | (have HKA : Hid (Kept NoB W w1) := Lib.hid (HKQ2.out.grown (by with_reducible exact hg1) (fun k hk => by cases hk)); have HZ1 := Lib.hid (grown_blk (by with_reducible exact hg1) HZW.out); have z0 := (frz5 HZ1.out).1; have z1 := (frz5 HZ1.out).2.1; have z2 := (frz5 HZ1.out).2.2.1; have z3 := (frz5 HZ1.out).2.2.2.1; have z4 := (frz5 HZ1.out).2.2.2.2; have y0 := (cells5 HZ1.out).1; have y1 := (cells5 HZ1.out).2.1; have y2 := (cells5 HZ1.out).2.2.1; have y3 := (cells5 HZ1.out).2.2.2.1; have y4 := (cells5 HZ1.out).2.2.2.2))
        have k0 := HKA.out.cell (p := ⟨w.heap.size, 0, none⟩) (fun h => h) c0; have k1 := HKA.out.cell (p := ⟨w.heap.size, 1, none⟩) (fun h => h) c1; have k2 := HKA.out.cell (p := ⟨w.heap.size, 2, none⟩) (fun h => h) c2; have k3 := HKA.out.cell (p := ⟨w.heap.size, 3, none⟩) (fun h => h) c3; have k4 := HKA.out.cell (p := ⟨w.heap.size, 4, none⟩) (fun h => h) c4
        clear hown1 hg1))
    · have HREL : Hid (MdCut W cch cep ns fr jn (.pointer (some ⟨w1.heap.size, 0, none⟩)) (w1.alloc (.cells #[.int .i64 cch, .int .u64 (cep + 1), .slice a1 ns.length cp1, .bool fr, .int .i64 jn] 84))) :=
        Lib.hid ⟨_, a1, cp1, rfl, heap_alloc_new _ _, row_keptI HO1.out ((Kept.refl NoB w1).alloc _) (fun _ _ h => h), HKA.out.size, HKA.out.alloc _⟩
      go_wp2_with fail
      go_meet
      exact HREL.out
    · have HREL : Hid (MdCut W cch cep ns fr jn (.pointer (some ⟨W.heap.size, 0, none⟩)) (((((w1.setCell ⟨W.heap.size, 0, none⟩ (.int .i64 cch)).setCell ⟨W.heap.size, 1, none⟩ (.int .u64 (cep + 1))).setCell ⟨W.heap.size, 2, none⟩ (.slice a1 ns.length cp1)).setCell ⟨W.heap.size, 3, none⟩ (.bool fr)).setCell ⟨W.heap.size, 4, none⟩ (.int .i64 jn))) :=
        Lib.hid ⟨_, a1, cp1, rfl, bset5 (bset5 (bset5 (bset5 (bset5 HZ1.out 0 (.int .i64 cch)) 1 (.int .u64 (cep + 1))) 2 (.slice a1 ns.length cp1)) 3 (.bool fr)) 4 (.int .i64 jn),
          row_keptI HO1.out ((((((Kept.refl (fun k => k = W.heap.size) w1).setCell (p := ⟨W.heap.size, 0, none⟩) (.inl rfl) (.int .i64 cch)).setCell (p := ⟨W.heap.size, 1, none⟩) (.inl rfl) (.int .u64 (cep + 1))).setCell (p := ⟨W.heap.size, 2, none⟩) (.inl rfl) (.slice a1 ns.length cp1)).setCell (p := ⟨W.heap.size, 3, none⟩) (.inl rfl) (.bool fr)).setCell (p := ⟨W.heap.size, 4, none⟩) (.inl rfl) (.int .i64 jn)) (fun k hk e => HO1.out.ne HZ1.out (by decide) k hk e), Nat.le_refl _,
          ((((HKA.out.setCell (p := ⟨W.heap.size, 0, none⟩) (.inr (Nat.le_refl _)) (.int .i64 cch)).setCell (p := ⟨W.heap.size, 1, none⟩) (.inr (Nat.le_refl _)) (.int .u64 (cep + 1))).setCell (p := ⟨W.heap.size, 2, none⟩) (.inr (Nat.le_refl _)) (.slice a1 ns.length cp1)).setCell (p := ⟨W.heap.size, 3, none⟩) (.inr (Nat.le_refl _)) (.bool fr)).setCell (p := ⟨W.heap.size, 4, none⟩) (.inr (Nat.le_refl _)) (.int .i64 jn)⟩
      clear z0 z1 z2 z3 z4 y0 y1 y2 y3 y4 k0 k1 k2 k3 k4
      go_wp2_with fail
      go_meet
      exact HREL.out
  case rest =>
    obtain ⟨s5, a1, cp1, rfl, h5x, ho, hs5, hk⟩ := hcut
    have HS := Lib.hid h5x
    have HO := Lib.hid ho
    have HX2 := Lib.hid (hk.heap (fun h => h) HBX.out)
    have HC2 := Lib.hid (hk.heap (fun h => h) HCX.out)
    have HT2 := Lib.hid (hk.heap (fun h => h) HTX.out)
    have HK2 := Lib.hid (HKW.out.trans hk (fun _ _ h => h))
    have hn1 : ¬ w.heap.size + 1 + 1 = s5 := fun h => by have := HSZ.out; omega
    have hn2 : ¬ s5 = w.heap.size + 1 + 1 := fun h => hn1 h.symm
    have hn3 : ¬ w.heap.size + 1 = s5 := fun h => by have := HSZ.out; omega
    have hn4 : ¬ s5 = w.heap.size + 1 := fun h => hn3 h.symm
    have hn5 : ¬ w.heap.size = s5 := fun h => by have := HSZ.out; omega
    have hn6 : ¬ s5 = w.heap.size := fun h => hn5 h.symm
    have HSB : Hid (w.heap.size ≤ s5) := Lib.hid (by have := HSZ.out; omega)
    have HN3 : Hid (NSl wc F (.slice a ns.length cap) ns) := Lib.hid (HNW.out _ HK2.out)
    have HWC : Hid (W.heap.size ≤ wc.heap.size) := Lib.hid hk.size
    obtain ⟨m0, m1, m2, m3⟩ := cells4c HC2.out
    obtain ⟨v0, v1, v2, v3, v4⟩ := cells5 HS.out
    obtain ⟨f0, f1, f2, f3, f4⟩ := frz5 HS.out
    clear c0 c1 c2 c3 c4 hq1 hq2 h5x ho hk hs5 hwr
    by_cases q1 : kd = 1
    · subst q1
      obtain ⟨c0, c1, c2, c3, c4⟩ := cells5 HX2.out
      by_cases hj : jn = nd
      · subst hj
        have HRR : Hid (R = ⟨cch, cep + 1, ns, fr, 0⟩) := Lib.hid (by rw [HR.out]; unfold madeC; rw [if_pos rfl, if_pos rfl])
        have HWL : Hid (ns.length ≤ 1000) := Lib.hid hnl
        go_upto_region 16 with fail
        have H54 : (wc.setCell ⟨s5, 4, none⟩ (.int .i64 0)).heap[s5]? = some (.cells #[.int .i64 cch, .int .u64 (cep + 1), .slice a1 ns.length cp1, .bool fr, .int .i64 0] 84 (0, 0)) := bset5 HS.out 4 (.int .i64 0)
        have HTn4 := bother HT2.out 4 (.int .i64 0) (show s5 ≠ w.heap.size + 2 from hn2)
        have HKn4 := (HK2.out).setCell (p := ⟨s5, 4, none⟩) (.inr HSB.out) (.int .i64 0)
        have HOn4 := row_keptI HO.out ((Kept.refl (fun k => k = s5) wc).setCell (p := ⟨s5, 4, none⟩) (.inl rfl) (.int .i64 0)) (fun k hk e => (HO.out).ne HS.out (by decide) k hk e)
        obtain ⟨W2, hW2⟩ : ∃ W, W = (wc.setCell ⟨s5, 4, none⟩ (.int .i64 0)) := ⟨_, rfl⟩
        have H5 := H54
        have HTn := HTn4
        have HKn := HKn4
        have HOn := HOn4
        rw [← hW2] at H5 HTn HKn HOn ⊢
        clear hW2 H54 HTn4 HKn4 HOn4 v0 v1 v2 v3 v4 f0 f1 f2 f3 f4 hn1 hn2 hn3 hn4 hn5 hn6
        obtain ⟨d0, d1, d2, d3, d4⟩ := cells5 H5
        obtain ⟨e0, e1, e2, e3, e4⟩ := cells5 HTn
        obtain ⟨g0, g1, g2, g3, g4⟩ := frz5 HTn
        have HTn := Lib.hid HTn
        have HKn := Lib.hid HKn
        have HNn := Lib.hid (HOn.nslB)
        clear H5 HOn
        go_wp2
        have HF := bset5 (bset5 (bset5 (bset5 (bset5 HTn.out 0 (.int .i64 cch)) 1 (.int .u64 (cep + 1))) 2 (.slice a1 ns.length cp1)) 3 (.bool fr)) 4 (.int .i64 0)
        have HKE := ((((HKn.out.setCell (p := ⟨w.heap.size + 2, 0, none⟩) (.inr (Nat.le_add_right _ _)) (.int .i64 cch)).setCell (p := ⟨w.heap.size + 2, 1, none⟩) (.inr (Nat.le_add_right _ _)) (.int .u64 (cep + 1))).setCell (p := ⟨w.heap.size + 2, 2, none⟩) (.inr (Nat.le_add_right _ _)) (.slice a1 ns.length cp1)).setCell (p := ⟨w.heap.size + 2, 3, none⟩) (.inr (Nat.le_add_right _ _)) (.bool fr)).setCell (p := ⟨w.heap.size + 2, 4, none⟩) (.inr (Nat.le_add_right _ _)) (.int .i64 0)
        have HKS := (((((Kept.refl (fun k => k = w.heap.size + 2) W2).setCell (p := ⟨w.heap.size + 2, 0, none⟩) (.inl rfl) (.int .i64 cch)).setCell (p := ⟨w.heap.size + 2, 1, none⟩) (.inl rfl) (.int .u64 (cep + 1))).setCell (p := ⟨w.heap.size + 2, 2, none⟩) (.inl rfl) (.slice a1 ns.length cp1)).setCell (p := ⟨w.heap.size + 2, 3, none⟩) (.inl rfl) (.bool fr)).setCell (p := ⟨w.heap.size + 2, 4, none⟩) (.inl rfl) (.int .i64 0)
        have HNE := (HNn.out.kept HKS (fun k _ h e => by have := HSZ.out; omega)).mono (G := fun k => w.heap.size ≤ k) (fun k _ h => by have := HSZ.out; omega)
        clear HKS d0 d1 d2 d3 d4 e0 e1 e2 e3 e4 g0 g1 g2 g3 g4 m0 m1 m2 m3
        obtain ⟨r0, r1, r2, r3, r4⟩ := cells5 (x0 := .int .i64 cch) (x1 := .int .u64 (cep + 1)) (x2 := .slice a1 ns.length cp1) (x3 := .bool fr) (x4 := .int .i64 0) HF
        clear HF HTn
        generalize hW : World.setCell _ _ _ = W3 at r0 r1 r2 r3 r4 HKE HNE ⊢
        rw [HRR.out]
        exact bodyPost_ret (v := .agg #[.int .i64 cch, .int .u64 (cep + 1), .slice a1 ns.length cp1, .bool fr, .int .i64 0]) (by simp [results, Try.results82, go_sem, r0, r1, r2, r3, r4]) rfl ⟨_, rfl, ⟨_, rfl, HNE, HEB.out.1, HEB.out.2, by have := HWL.out; simpa using this⟩, HKE⟩
      · have hjb : (jn == nd) = false := by simpa using hj
        obtain ⟨m, hm⟩ : ∃ m, m = ns.length - 1 := ⟨_, rfl⟩
        have hml : ns.length = m + 1 := by omega
        obtain ⟨b, o, rfl, _, _, hcl⟩ := HN3.out.at_ (j := ns.length - 1) (by omega)
        rw [← hm] at hcl
        have HLL := HLS.out
        rw [← hm] at HLL
        obtain ⟨x, hx⟩ : ∃ x, x = ns.getD m 0 := ⟨_, rfl⟩
        rw [← hx] at hcl HLL
        have hxe : Cf.last ⟨cch, cep, ns, fr, jn⟩ = x := HLL
        have HRX : Hid (R = ⟨cch, cep + 1, wo ns nd, fr && decide (x ≠ nd), jn⟩) := Lib.hid (by rw [HR.out]; unfold madeC; rw [if_pos rfl, if_neg (show ¬ (Cf.mk cch cep ns fr jn).jn = nd from hj), hxe])
        have HWT : Hid (∀ w', Kept (fun k => k = s5) wc w' → Calls Try.prog 116 #[.slice (some ⟨b, o, none⟩) ns.length cap, .int .i64 nd] w' fun e w'' => ∃ v', e = .returned v' ∧ IOwn w'.heap.size w'' v' (wo ns nd) ∧ Kept NoB w' w'') := Lib.hid (fun w' hk => by
          have hnn : NSl w' (fun _ => True) (.slice (some ⟨b, o, none⟩) ns.length cap) ns := by
            have hz := (HNW.out _ (Kept.refl NoB w)).mono (G := fun k => k < w.heap.size) (fun k hk _ => hk)
            exact ((hz.kept HK2.out (fun _ _ _ h => h)).kept hk (fun k _ h1 h2 => by have := HSB.out; omega)).mono (fun _ _ _ => trivial)
          exact Without_any _ ns nd _ w' hnn (by omega))
        have HWO : Hid ((wo ns nd).length ≤ 1000) := Lib.hid (by have : (wo ns nd).length ≤ ns.length := List.length_filter_le _ _; omega)
        obtain ⟨M, hM⟩ : ∃ M, M = wo ns nd := ⟨_, rfl⟩
        rw [← hM] at HRX HWT HWO
        have HML := Lib.hid hml
        clear hxe hm hx hM HLL hj
        rw [hml] at h1 h5 hl5 c2 HS HX2 v2 ⊢
        rw [hml] at HWT HO
        clear hml
        by_cases hl : x = nd
        · subst hl
          have HRR : Hid (R = ⟨cch, cep + 1, M, false, jn⟩) := Lib.hid (by rw [HRX.out]; simp)
          have HWL := HWO
          go_upto_region 7 with fail
          have hwm : IntKind.i64.wrap (m : Int) = (m : Int) := IntWalk.i64_in _ (by omega)
          have hwn : IntKind.i64.wrap (((m + 1 : Nat) : Int) - 1) = (m : Int) := by rw [show ((m + 1 : Nat) : Int) - 1 = (m : Int) by omega]; exact hwm
          have hmz : (0 : Int) ≤ (m : Int) := by omega
          have hmy : (m : Int) < ((m + 1 : Nat) : Int) := by omega
          have hmx : (m : Int) < (m : Int) + 1 := by omega
          go_region_held3 (fun w' => w'.cell? ⟨w.heap.size, 2, none⟩ = some (.slice (some ⟨b, o, none⟩) (m + 1) cap) ∧ w'.cell? ⟨b, o + m, none⟩ = some (.int .i64 x) ∧ w'.cell? ⟨w.heap.size + 1, 3, none⟩ = some (.int .i64 x))
            (first | (with_reducible exact ⟨cell_drew c2, cell_drew hcl, cell_drew m3⟩) | go_keep)
            (fail)
          have u3 : wc.drew.frozen? ⟨s5, 3, none⟩ = false := f3
          go_upto_region 9 with fail
          have HS3 : Hid ((wc.setCell ⟨s5, 3, none⟩ (.bool false)).drew.heap[s5]? = some (.cells #[.int .i64 cch, .int .u64 (cep + 1), .slice a1 (m + 1) cp1, .bool false, .int .i64 jn] 84 (0, 0))) := Lib.hid (bset5 (w := wc) HS.out 3 (.bool false))
          have HT3 : Hid ((wc.setCell ⟨s5, 3, none⟩ (.bool false)).drew.heap[w.heap.size + 2]? = _) := Lib.hid (bother (w := wc) HT2.out 3 (.bool false) (show s5 ≠ w.heap.size + 2 from hn2))
          have HC3 : Hid ((wc.setCell ⟨s5, 3, none⟩ (.bool false)).drew.heap[w.heap.size + 1]? = _) := Lib.hid (bother (w := wc) HC2.out 3 (.bool false) (show s5 ≠ w.heap.size + 1 from hn4))
          have HX3 : Hid ((wc.setCell ⟨s5, 3, none⟩ (.bool false)).drew.heap[w.heap.size]? = _) := Lib.hid (bother (w := wc) HX2.out 3 (.bool false) (show s5 ≠ w.heap.size from hn6))
          have HK3 := Lib.hid (HK2.out.setCell (p := ⟨s5, 3, none⟩) (.inr HSB.out) (.bool false)).drew
          have HKW3 : Hid (Kept (fun k => k = s5) wc (wc.setCell ⟨s5, 3, none⟩ (.bool false)).drew) := Lib.hid ((Kept.refl (fun k => k = s5) wc).setCell (p := ⟨s5, 3, none⟩) (.inl rfl) (.bool false)).drew
          clear hwm hwn hmz hmy hmx
          obtain ⟨Wa, hWa⟩ : ∃ W, W = (wc.setCell ⟨s5, 3, none⟩ (.bool false)).drew := ⟨_, rfl⟩
          rw [← hWa] at HS3 HT3 HC3 HX3 HK3 HKW3 ⊢
          clear hWa c0 c1 c2 c3 c4 m0 m1 m2 m3 v0 v1 v2 v3 v4 f0 f1 f2 f3 f4 hcl u3
          obtain ⟨c0, c1, c2, c3, c4⟩ := cells5 HX3.out
          obtain ⟨m0, m1, m2, m3⟩ := cells4c HC3.out
          go_wp2_with fail
          with_reducible refine (HWT.out _ HKW3.out).mono ?_
          rintro e wb ⟨v', rfl, hv', hkb⟩
          obtain ⟨va, vc, rfl⟩ := hv'.form
          have HSb := Lib.hid (hkb.heap (fun h => h) HS3.out)
          have HTb := Lib.hid (hkb.heap (fun h => h) HT3.out)
          have HKb := Lib.hid (HK3.out.trans hkb (fun _ _ h => h))
          have HOb : Hid (IOwn W.heap.size wb (.slice va M.length vc) M) := Lib.hid (hv'.low (by have := HWC.out; have := HKW3.out.size; omega))
          clear c0 c1 c2 c3 c4 m0 m1 m2 m3 hv' hkb
          obtain ⟨v0, v1, v2, v3, v4⟩ := cells5 HSb.out
          obtain ⟨f0, f1, f2, f3, f4⟩ := frz5 HSb.out
          go_upto_region 16 with fail
          have H52 : (wb.setCell ⟨s5, 2, none⟩ (.slice va M.length vc)).heap[s5]? = some (.cells #[.int .i64 cch, .int .u64 (cep + 1), .slice va M.length vc, .bool false, .int .i64 jn] 84 (0, 0)) := bset5 HSb.out 2 (.slice va M.length vc)
          have HTn2 := bother HTb.out 2 (.slice va M.length vc) (show s5 ≠ w.heap.size + 2 from hn2)
          have HKn2 := (HKb.out).setCell (p := ⟨s5, 2, none⟩) (.inr HSB.out) (.slice va M.length vc)
          have HOn2 := row_keptI HOb.out ((Kept.refl (fun k => k = s5) wb).setCell (p := ⟨s5, 2, none⟩) (.inl rfl) (.slice va M.length vc)) (fun k hk e => (HOb.out).ne HSb.out (by decide) k hk e)
          obtain ⟨W2, hW2⟩ : ∃ W, W = (wb.setCell ⟨s5, 2, none⟩ (.slice va M.length vc)) := ⟨_, rfl⟩
          have H5 := H52
          have HTn := HTn2
          have HKn := HKn2
          have HOn := HOn2
          rw [← hW2] at H5 HTn HKn HOn ⊢
          clear hW2 H52 HTn2 HKn2 HOn2 v0 v1 v2 v3 v4 f0 f1 f2 f3 f4 hn1 hn2 hn3 hn4 hn5 hn6
          obtain ⟨d0, d1, d2, d3, d4⟩ := cells5 H5
          obtain ⟨e0, e1, e2, e3, e4⟩ := cells5 HTn
          obtain ⟨g0, g1, g2, g3, g4⟩ := frz5 HTn
          have HTn := Lib.hid HTn
          have HKn := Lib.hid HKn
          have HNn := Lib.hid (HOn.nslB)
          clear H5 HOn
          go_wp2
          have HF := bset5 (bset5 (bset5 (bset5 (bset5 HTn.out 0 (.int .i64 cch)) 1 (.int .u64 (cep + 1))) 2 (.slice va M.length vc)) 3 (.bool false)) 4 (.int .i64 jn)
          have HKE := ((((HKn.out.setCell (p := ⟨w.heap.size + 2, 0, none⟩) (.inr (Nat.le_add_right _ _)) (.int .i64 cch)).setCell (p := ⟨w.heap.size + 2, 1, none⟩) (.inr (Nat.le_add_right _ _)) (.int .u64 (cep + 1))).setCell (p := ⟨w.heap.size + 2, 2, none⟩) (.inr (Nat.le_add_right _ _)) (.slice va M.length vc)).setCell (p := ⟨w.heap.size + 2, 3, none⟩) (.inr (Nat.le_add_right _ _)) (.bool false)).setCell (p := ⟨w.heap.size + 2, 4, none⟩) (.inr (Nat.le_add_right _ _)) (.int .i64 jn)
          have HKS := (((((Kept.refl (fun k => k = w.heap.size + 2) W2).setCell (p := ⟨w.heap.size + 2, 0, none⟩) (.inl rfl) (.int .i64 cch)).setCell (p := ⟨w.heap.size + 2, 1, none⟩) (.inl rfl) (.int .u64 (cep + 1))).setCell (p := ⟨w.heap.size + 2, 2, none⟩) (.inl rfl) (.slice va M.length vc)).setCell (p := ⟨w.heap.size + 2, 3, none⟩) (.inl rfl) (.bool false)).setCell (p := ⟨w.heap.size + 2, 4, none⟩) (.inl rfl) (.int .i64 jn)
          have HNE := (HNn.out.kept HKS (fun k _ h e => by have := HSZ.out; omega)).mono (G := fun k => w.heap.size ≤ k) (fun k _ h => by have := HSZ.out; omega)
          clear HKS d0 d1 d2 d3 d4 e0 e1 e2 e3 e4 g0 g1 g2 g3 g4
          obtain ⟨r0, r1, r2, r3, r4⟩ := cells5 (x0 := .int .i64 cch) (x1 := .int .u64 (cep + 1)) (x2 := .slice va M.length vc) (x3 := .bool false) (x4 := .int .i64 jn) HF
          clear HF HTn
          generalize hW : World.setCell _ _ _ = W3 at r0 r1 r2 r3 r4 HKE HNE ⊢
          rw [HRR.out]
          exact bodyPost_ret (v := .agg #[.int .i64 cch, .int .u64 (cep + 1), .slice va M.length vc, .bool false, .int .i64 jn]) (by simp [results, Try.results82, go_sem, r0, r1, r2, r3, r4]) rfl ⟨_, rfl, ⟨_, rfl, HNE, HEB.out.1, HEB.out.2, by have := HWL.out; simpa using this⟩, HKE⟩
        · have hlb : (x == nd) = false := by simpa using hl
          have HRR : Hid (R = ⟨cch, cep + 1, M, fr, jn⟩) := Lib.hid (by rw [HRX.out]; simp [hl])
          have HWL := HWO
          go_upto_region 7 with fail
          have hwm : IntKind.i64.wrap (m : Int) = (m : Int) := IntWalk.i64_in _ (by omega)
          have hwn : IntKind.i64.wrap (((m + 1 : Nat) : Int) - 1) = (m : Int) := by rw [show ((m + 1 : Nat) : Int) - 1 = (m : Int) by omega]; exact hwm
          have hmz : (0 : Int) ≤ (m : Int) := by omega
          have hmy : (m : Int) < ((m + 1 : Nat) : Int) := by omega
          have hmx : (m : Int) < (m : Int) + 1 := by omega
          go_region_held3 (fun w' => w'.cell? ⟨w.heap.size, 2, none⟩ = some (.slice (some ⟨b, o, none⟩) (m + 1) cap) ∧ w'.cell? ⟨b, o + m, none⟩ = some (.int .i64 x) ∧ w'.cell? ⟨w.heap.size + 1, 3, none⟩ = some (.int .i64 nd))
            (first | (with_reducible exact ⟨cell_drew c2, cell_drew hcl, cell_drew m3⟩) | go_keep)
            (fail)
          go_upto_region 9 with fail
          have HS3 : Hid (wc.drew.heap[s5]? = some (.cells #[.int .i64 cch, .int .u64 (cep + 1), .slice a1 (m + 1) cp1, .bool fr, .int .i64 jn] 84 (0, 0))) := Lib.hid HS.out
          have HT3 : Hid (wc.drew.heap[w.heap.size + 2]? = some (.cells #[.int .i64 0, .int .u64 0, .slice none 0 0, .bool false, .int .i64 0] 84 (0, 0))) := Lib.hid HT2.out
          have HC3 : Hid (wc.drew.heap[w.heap.size + 1]? = _) := Lib.hid HC2.out
          have HX3 : Hid (wc.drew.heap[w.heap.size]? = _) := Lib.hid HX2.out
          have HK3 := Lib.hid HK2.out.drew
          have HKW3 : Hid (Kept (fun k => k = s5) wc wc.drew) := Lib.hid (Kept.refl _ wc).drew
          clear hwm hwn hmz hmy hmx
          obtain ⟨Wa, hWa⟩ : ∃ W, W = wc.drew := ⟨_, rfl⟩
          rw [← hWa] at HS3 HT3 HC3 HX3 HK3 HKW3 ⊢
          clear hWa c0 c1 c2 c3 c4 m0 m1 m2 m3 v0 v1 v2 v3 v4 f0 f1 f2 f3 f4 hcl
          obtain ⟨c0, c1, c2, c3, c4⟩ := cells5 HX3.out
          obtain ⟨m0, m1, m2, m3⟩ := cells4c HC3.out
          go_wp2_with fail
          with_reducible refine (HWT.out _ HKW3.out).mono ?_
          rintro e wb ⟨v', rfl, hv', hkb⟩
          obtain ⟨va, vc, rfl⟩ := hv'.form
          have HSb := Lib.hid (hkb.heap (fun h => h) HS3.out)
          have HTb := Lib.hid (hkb.heap (fun h => h) HT3.out)
          have HKb := Lib.hid (HK3.out.trans hkb (fun _ _ h => h))
          have HOb : Hid (IOwn W.heap.size wb (.slice va M.length vc) M) := Lib.hid (hv'.low (by have := HWC.out; have := HKW3.out.size; omega))
          clear c0 c1 c2 c3 c4 m0 m1 m2 m3 hv' hkb
          obtain ⟨v0, v1, v2, v3, v4⟩ := cells5 HSb.out
          obtain ⟨f0, f1, f2, f3, f4⟩ := frz5 HSb.out
          go_upto_region 16 with fail
          have H52 : (wb.setCell ⟨s5, 2, none⟩ (.slice va M.length vc)).heap[s5]? = some (.cells #[.int .i64 cch, .int .u64 (cep + 1), .slice va M.length vc, .bool fr, .int .i64 jn] 84 (0, 0)) := bset5 HSb.out 2 (.slice va M.length vc)
          have HTn2 := bother HTb.out 2 (.slice va M.length vc) (show s5 ≠ w.heap.size + 2 from hn2)
          have HKn2 := (HKb.out).setCell (p := ⟨s5, 2, none⟩) (.inr HSB.out) (.slice va M.length vc)
          have HOn2 := row_keptI HOb.out ((Kept.refl (fun k => k = s5) wb).setCell (p := ⟨s5, 2, none⟩) (.inl rfl) (.slice va M.length vc)) (fun k hk e => (HOb.out).ne HSb.out (by decide) k hk e)
          obtain ⟨W2, hW2⟩ : ∃ W, W = (wb.setCell ⟨s5, 2, none⟩ (.slice va M.length vc)) := ⟨_, rfl⟩
          have H5 := H52
          have HTn := HTn2
          have HKn := HKn2
          have HOn := HOn2
          rw [← hW2] at H5 HTn HKn HOn ⊢
          clear hW2 H52 HTn2 HKn2 HOn2 v0 v1 v2 v3 v4 f0 f1 f2 f3 f4 hn1 hn2 hn3 hn4 hn5 hn6
          obtain ⟨d0, d1, d2, d3, d4⟩ := cells5 H5
          obtain ⟨e0, e1, e2, e3, e4⟩ := cells5 HTn
          obtain ⟨g0, g1, g2, g3, g4⟩ := frz5 HTn
          have HTn := Lib.hid HTn
          have HKn := Lib.hid HKn
          have HNn := Lib.hid (HOn.nslB)
          clear H5 HOn
          go_wp2
          have HF := bset5 (bset5 (bset5 (bset5 (bset5 HTn.out 0 (.int .i64 cch)) 1 (.int .u64 (cep + 1))) 2 (.slice va M.length vc)) 3 (.bool fr)) 4 (.int .i64 jn)
          have HKE := ((((HKn.out.setCell (p := ⟨w.heap.size + 2, 0, none⟩) (.inr (Nat.le_add_right _ _)) (.int .i64 cch)).setCell (p := ⟨w.heap.size + 2, 1, none⟩) (.inr (Nat.le_add_right _ _)) (.int .u64 (cep + 1))).setCell (p := ⟨w.heap.size + 2, 2, none⟩) (.inr (Nat.le_add_right _ _)) (.slice va M.length vc)).setCell (p := ⟨w.heap.size + 2, 3, none⟩) (.inr (Nat.le_add_right _ _)) (.bool fr)).setCell (p := ⟨w.heap.size + 2, 4, none⟩) (.inr (Nat.le_add_right _ _)) (.int .i64 jn)
          have HKS := (((((Kept.refl (fun k => k = w.heap.size + 2) W2).setCell (p := ⟨w.heap.size + 2, 0, none⟩) (.inl rfl) (.int .i64 cch)).setCell (p := ⟨w.heap.size + 2, 1, none⟩) (.inl rfl) (.int .u64 (cep + 1))).setCell (p := ⟨w.heap.size + 2, 2, none⟩) (.inl rfl) (.slice va M.length vc)).setCell (p := ⟨w.heap.size + 2, 3, none⟩) (.inl rfl) (.bool fr)).setCell (p := ⟨w.heap.size + 2, 4, none⟩) (.inl rfl) (.int .i64 jn)
          have HNE := (HNn.out.kept HKS (fun k _ h e => by have := HSZ.out; omega)).mono (G := fun k => w.heap.size ≤ k) (fun k _ h => by have := HSZ.out; omega)
          clear HKS d0 d1 d2 d3 d4 e0 e1 e2 e3 e4 g0 g1 g2 g3 g4
          obtain ⟨r0, r1, r2, r3, r4⟩ := cells5 (x0 := .int .i64 cch) (x1 := .int .u64 (cep + 1)) (x2 := .slice va M.length vc) (x3 := .bool fr) (x4 := .int .i64 jn) HF
          clear HF HTn
          generalize hW : World.setCell _ _ _ = W3 at r0 r1 r2 r3 r4 HKE HNE ⊢
          rw [HRR.out]
          exact bodyPost_ret (v := .agg #[.int .i64 cch, .int .u64 (cep + 1), .slice va M.length vc, .bool fr, .int .i64 jn]) (by simp [results, Try.results82, go_sem, r0, r1, r2, r3, r4]) rfl ⟨_, rfl, ⟨_, rfl, HNE, HEB.out.1, HEB.out.2, by have := HWL.out; simpa using this⟩, HKE⟩
    · have b1 : (kd == 1) = false := by simpa using q1
      by_cases q2 : kd = 2
      · subst q2
        have HRR : Hid (R = ⟨cch, cep + 1, ns, fr, nd⟩) := Lib.hid (by rw [HR.out]; unfold madeC; rw [if_neg (by decide), if_pos rfl])
        have HWL : Hid (ns.length ≤ 1000) := Lib.hid hnl
        go_upto_region 16 with fail
        have H54 : (wc.setCell ⟨s5, 4, none⟩ (.int .i64 nd)).heap[s5]? = some (.cells #[.int .i64 cch, .int .u64 (cep + 1), .slice a1 ns.length cp1, .bool fr, .int .i64 nd] 84 (0, 0)) := bset5 HS.out 4 (.int .i64 nd)
        have HTn4 := bother HT2.out 4 (.int .i64 nd) (show s5 ≠ w.heap.size + 2 from hn2)
        have HKn4 := (HK2.out).setCell (p := ⟨s5, 4, none⟩) (.inr HSB.out) (.int .i64 nd)
        have HOn4 := row_keptI HO.out ((Kept.refl (fun k => k = s5) wc).setCell (p := ⟨s5, 4, none⟩) (.inl rfl) (.int .i64 nd)) (fun k hk e => (HO.out).ne HS.out (by decide) k hk e)
        obtain ⟨W2, hW2⟩ : ∃ W, W = (wc.setCell ⟨s5, 4, none⟩ (.int .i64 nd)) := ⟨_, rfl⟩
        have H5 := H54
        have HTn := HTn4
        have HKn := HKn4
        have HOn := HOn4
        rw [← hW2] at H5 HTn HKn HOn ⊢
        clear hW2 H54 HTn4 HKn4 HOn4 v0 v1 v2 v3 v4 f0 f1 f2 f3 f4 hn1 hn2 hn3 hn4 hn5 hn6
        obtain ⟨d0, d1, d2, d3, d4⟩ := cells5 H5
        obtain ⟨e0, e1, e2, e3, e4⟩ := cells5 HTn
        obtain ⟨g0, g1, g2, g3, g4⟩ := frz5 HTn
        have HTn := Lib.hid HTn
        have HKn := Lib.hid HKn
        have HNn := Lib.hid (HOn.nslB)
        clear H5 HOn
        go_wp2
        have HF := bset5 (bset5 (bset5 (bset5 (bset5 HTn.out 0 (.int .i64 cch)) 1 (.int .u64 (cep + 1))) 2 (.slice a1 ns.length cp1)) 3 (.bool fr)) 4 (.int .i64 nd)
        have HKE := ((((HKn.out.setCell (p := ⟨w.heap.size + 2, 0, none⟩) (.inr (Nat.le_add_right _ _)) (.int .i64 cch)).setCell (p := ⟨w.heap.size + 2, 1, none⟩) (.inr (Nat.le_add_right _ _)) (.int .u64 (cep + 1))).setCell (p := ⟨w.heap.size + 2, 2, none⟩) (.inr (Nat.le_add_right _ _)) (.slice a1 ns.length cp1)).setCell (p := ⟨w.heap.size + 2, 3, none⟩) (.inr (Nat.le_add_right _ _)) (.bool fr)).setCell (p := ⟨w.heap.size + 2, 4, none⟩) (.inr (Nat.le_add_right _ _)) (.int .i64 nd)
        have HKS := (((((Kept.refl (fun k => k = w.heap.size + 2) W2).setCell (p := ⟨w.heap.size + 2, 0, none⟩) (.inl rfl) (.int .i64 cch)).setCell (p := ⟨w.heap.size + 2, 1, none⟩) (.inl rfl) (.int .u64 (cep + 1))).setCell (p := ⟨w.heap.size + 2, 2, none⟩) (.inl rfl) (.slice a1 ns.length cp1)).setCell (p := ⟨w.heap.size + 2, 3, none⟩) (.inl rfl) (.bool fr)).setCell (p := ⟨w.heap.size + 2, 4, none⟩) (.inl rfl) (.int .i64 nd)
        have HNE := (HNn.out.kept HKS (fun k _ h e => by have := HSZ.out; omega)).mono (G := fun k => w.heap.size ≤ k) (fun k _ h => by have := HSZ.out; omega)
        clear HKS d0 d1 d2 d3 d4 e0 e1 e2 e3 e4 g0 g1 g2 g3 g4 m0 m1 m2 m3
        obtain ⟨r0, r1, r2, r3, r4⟩ := cells5 (x0 := .int .i64 cch) (x1 := .int .u64 (cep + 1)) (x2 := .slice a1 ns.length cp1) (x3 := .bool fr) (x4 := .int .i64 nd) HF
        clear HF HTn
        generalize hW : World.setCell _ _ _ = W3 at r0 r1 r2 r3 r4 HKE HNE ⊢
        rw [HRR.out]
        exact bodyPost_ret (v := .agg #[.int .i64 cch, .int .u64 (cep + 1), .slice a1 ns.length cp1, .bool fr, .int .i64 nd]) (by simp [results, Try.results82, go_sem, r0, r1, r2, r3, r4]) rfl ⟨_, rfl, ⟨_, rfl, HNE, HEB.out.1, HEB.out.2, by have := HWL.out; simpa using this⟩, HKE⟩
      · have b2 : (kd == 2) = false := by simpa using q2
        by_cases q3 : kd = 3
        · subst q3
          have HRR : Hid (R = ⟨cch, cep + 1, ns ++ [nd], true, 0⟩) := Lib.hid (by rw [HR.out]; unfold madeC; rw [if_neg (by decide), if_neg (by decide), if_pos rfl])
          have HWL : Hid ((ns ++ [nd]).length ≤ 1000) := Lib.hid (by simp; omega)
          have HO1 := Lib.hid (row_keptI HO.out ((Kept.refl NoB wc).alloc (.cells #[.int .i64 nd] 3)) (fun _ _ h => h))
          have HON := Lib.hid (heap_alloc_new wc (.cells #[.int .i64 nd] 3))
          have HSZ2 : Hid (W.heap.size ≤ (wc.alloc (.cells #[.int .i64 nd] 3)).heap.size) := Lib.hid (by have := HWC.out; simp; omega)
          have hl6 : ns.length ≤ 10000 := by omega
          go_upto_region 14 with (at_builtin; refine wpList_append_onei _ rfl (.tmp 56) (.tmp 59) rfl W.heap.size (.slice a1 ns.length cp1) ns rfl HO1.out wc.heap.size nd rfl HON.out hl6 HSZ2.out ?_; intro a2 c2 wb hown1 hg1; have HKG := Lib.hid (((Kept.refl (fun k => (Value.slice a1 ns.length cp1).ownBlock = some k) wc).alloc (.cells #[.int .i64 nd] 3)).grown hg1 (fun k hk => .inl hk)); have HKb := Lib.hid ((HK2.out.alloc (.cells #[.int .i64 nd] 3)).grown hg1 (fun k hk => .inr (by have := (World.ownsRow.lt HO.out k hk).1; have := HSZ.out; omega))); have HSb := Lib.hid (HKG.out.heap (fun e => HO.out.ne HS.out (by decide) s5 e rfl) HS.out); have HTb := Lib.hid (HKG.out.heap (fun e => HO.out.ne HT2.out (by decide) (w.heap.size + 2) e rfl) HT2.out); have HOb := Lib.hid hown1; clear hown1 hg1 m0 m1 m2 m3 v0 v1 v2 v3 v4 f0 f1 f2 f3 f4; obtain ⟨v0, v1, v2, v3, v4⟩ := cells5 HSb.out; obtain ⟨f0, f1, f2, f3, f4⟩ := frz5 HSb.out)
          have hNL : (ns ++ [nd]).length = ns.length + 1 := by simp
          go_upto_region 16 with fail
          have H52 : (wb.setCell ⟨s5, 2, none⟩ (.slice a2 (ns.length + 1) c2)).heap[s5]? = some (.cells #[.int .i64 cch, .int .u64 (cep + 1), .slice a2 (ns.length + 1) c2, .bool fr, .int .i64 jn] 84 (0, 0)) := bset5 HSb.out 2 (.slice a2 (ns.length + 1) c2)
          have HTn2 := bother HTb.out 2 (.slice a2 (ns.length + 1) c2) (show s5 ≠ w.heap.size + 2 from hn2)
          have HKn2 := (HKb.out).setCell (p := ⟨s5, 2, none⟩) (.inr HSB.out) (.slice a2 (ns.length + 1) c2)
          have HOn2 := row_keptI HOb.out ((Kept.refl (fun k => k = s5) wb).setCell (p := ⟨s5, 2, none⟩) (.inl rfl) (.slice a2 (ns.length + 1) c2)) (fun k hk e => (HOb.out).ne HSb.out (by decide) k hk e)
          have H53 : ((wb.setCell ⟨s5, 2, none⟩ (.slice a2 (ns.length + 1) c2)).setCell ⟨s5, 3, none⟩ (.bool true)).heap[s5]? = some (.cells #[.int .i64 cch, .int .u64 (cep + 1), .slice a2 (ns.length + 1) c2, .bool true, .int .i64 jn] 84 (0, 0)) := bset5 H52 3 (.bool true)
          have HTn3 := bother HTn2 3 (.bool true) (show s5 ≠ w.heap.size + 2 from hn2)
          have HKn3 := (HKn2).setCell (p := ⟨s5, 3, none⟩) (.inr HSB.out) (.bool true)
          have HOn3 := row_keptI HOn2 ((Kept.refl (fun k => k = s5) (wb.setCell ⟨s5, 2, none⟩ (.slice a2 (ns.length + 1) c2))).setCell (p := ⟨s5, 3, none⟩) (.inl rfl) (.bool true)) (fun k hk e => (HOn2).ne H52 (by decide) k hk e)
          have H54 : (((wb.setCell ⟨s5, 2, none⟩ (.slice a2 (ns.length + 1) c2)).setCell ⟨s5, 3, none⟩ (.bool true)).setCell ⟨s5, 4, none⟩ (.int .i64 0)).heap[s5]? = some (.cells #[.int .i64 cch, .int .u64 (cep + 1), .slice a2 (ns.length + 1) c2, .bool true, .int .i64 0] 84 (0, 0)) := bset5 H53 4 (.int .i64 0)
          have HTn4 := bother HTn3 4 (.int .i64 0) (show s5 ≠ w.heap.size + 2 from hn2)
          have HKn4 := (HKn3).setCell (p := ⟨s5, 4, none⟩) (.inr HSB.out) (.int .i64 0)
          have HOn4 := row_keptI HOn3 ((Kept.refl (fun k => k = s5) ((wb.setCell ⟨s5, 2, none⟩ (.slice a2 (ns.length + 1) c2)).setCell ⟨s5, 3, none⟩ (.bool true))).setCell (p := ⟨s5, 4, none⟩) (.inl rfl) (.int .i64 0)) (fun k hk e => (HOn3).ne H53 (by decide) k hk e)
          obtain ⟨W2, hW2⟩ : ∃ W, W = (((wb.setCell ⟨s5, 2, none⟩ (.slice a2 (ns.length + 1) c2)).setCell ⟨s5, 3, none⟩ (.bool true)).setCell ⟨s5, 4, none⟩ (.int .i64 0)) := ⟨_, rfl⟩
          have H5 := H54
          have HTn := HTn4
          have HKn := HKn4
          have HOn := HOn4
          rw [← hW2] at H5 HTn HKn HOn ⊢
          clear hNL hW2 H52 HTn2 HKn2 HOn2 H53 HTn3 HKn3 HOn3 H54 HTn4 HKn4 HOn4 v0 v1 v2 v3 v4 f0 f1 f2 f3 f4 hn1 hn2 hn3 hn4 hn5 hn6
          obtain ⟨d0, d1, d2, d3, d4⟩ := cells5 H5
          obtain ⟨e0, e1, e2, e3, e4⟩ := cells5 HTn
          obtain ⟨g0, g1, g2, g3, g4⟩ := frz5 HTn
          have HTn := Lib.hid HTn
          have HKn := Lib.hid HKn
          have HNn := Lib.hid (HOn.nslB)
          clear H5 HOn
          go_wp2
          have HF := bset5 (bset5 (bset5 (bset5 (bset5 HTn.out 0 (.int .i64 cch)) 1 (.int .u64 (cep + 1))) 2 (.slice a2 (ns.length + 1) c2)) 3 (.bool true)) 4 (.int .i64 0)
          have HKE := ((((HKn.out.setCell (p := ⟨w.heap.size + 2, 0, none⟩) (.inr (Nat.le_add_right _ _)) (.int .i64 cch)).setCell (p := ⟨w.heap.size + 2, 1, none⟩) (.inr (Nat.le_add_right _ _)) (.int .u64 (cep + 1))).setCell (p := ⟨w.heap.size + 2, 2, none⟩) (.inr (Nat.le_add_right _ _)) (.slice a2 (ns.length + 1) c2)).setCell (p := ⟨w.heap.size + 2, 3, none⟩) (.inr (Nat.le_add_right _ _)) (.bool true)).setCell (p := ⟨w.heap.size + 2, 4, none⟩) (.inr (Nat.le_add_right _ _)) (.int .i64 0)
          have HKS := (((((Kept.refl (fun k => k = w.heap.size + 2) W2).setCell (p := ⟨w.heap.size + 2, 0, none⟩) (.inl rfl) (.int .i64 cch)).setCell (p := ⟨w.heap.size + 2, 1, none⟩) (.inl rfl) (.int .u64 (cep + 1))).setCell (p := ⟨w.heap.size + 2, 2, none⟩) (.inl rfl) (.slice a2 (ns.length + 1) c2)).setCell (p := ⟨w.heap.size + 2, 3, none⟩) (.inl rfl) (.bool true)).setCell (p := ⟨w.heap.size + 2, 4, none⟩) (.inl rfl) (.int .i64 0)
          have HNE := (HNn.out.kept HKS (fun k _ h e => by have := HSZ.out; omega)).mono (G := fun k => w.heap.size ≤ k) (fun k _ h => by have := HSZ.out; omega)
          clear HKS d0 d1 d2 d3 d4 e0 e1 e2 e3 e4 g0 g1 g2 g3 g4
          obtain ⟨r0, r1, r2, r3, r4⟩ := cells5 (x0 := .int .i64 cch) (x1 := .int .u64 (cep + 1)) (x2 := .slice a2 (ns.length + 1) c2) (x3 := .bool true) (x4 := .int .i64 0) HF
          clear HF HTn
          generalize hW : World.setCell _ _ _ = W3 at r0 r1 r2 r3 r4 HKE HNE ⊢
          rw [HRR.out]
          exact bodyPost_ret (v := .agg #[.int .i64 cch, .int .u64 (cep + 1), .slice a2 (ns.length + 1) c2, .bool true, .int .i64 0]) (by simp [results, Try.results82, go_sem, r0, r1, r2, r3, r4]) rfl ⟨_, rfl, ⟨_, rfl, HNE, HEB.out.1, HEB.out.2, by have := HWL.out; simpa using this⟩, HKE⟩
        · have b3 : (kd == 3) = false := by simpa using q3
          have HRR : Hid (R = ⟨cch, cep + 1, ns, false, jn⟩) := Lib.hid (by rw [HR.out]; unfold madeC; rw [if_neg q1, if_neg q2, if_neg q3])
          have HWL : Hid (ns.length ≤ 1000) := Lib.hid hnl
          go_upto_region 16 with fail
          have H53 : (wc.setCell ⟨s5, 3, none⟩ (.bool false)).heap[s5]? = some (.cells #[.int .i64 cch, .int .u64 (cep + 1), .slice a1 ns.length cp1, .bool false, .int .i64 jn] 84 (0, 0)) := bset5 HS.out 3 (.bool false)
          have HTn3 := bother HT2.out 3 (.bool false) (show s5 ≠ w.heap.size + 2 from hn2)
          have HKn3 := (HK2.out).setCell (p := ⟨s5, 3, none⟩) (.inr HSB.out) (.bool false)
          have HOn3 := row_keptI HO.out ((Kept.refl (fun k => k = s5) wc).setCell (p := ⟨s5, 3, none⟩) (.inl rfl) (.bool false)) (fun k hk e => (HO.out).ne HS.out (by decide) k hk e)
          obtain ⟨W2, hW2⟩ : ∃ W, W = (wc.setCell ⟨s5, 3, none⟩ (.bool false)) := ⟨_, rfl⟩
          have H5 := H53
          have HTn := HTn3
          have HKn := HKn3
          have HOn := HOn3
          rw [← hW2] at H5 HTn HKn HOn ⊢
          clear hW2 H53 HTn3 HKn3 HOn3 v0 v1 v2 v3 v4 f0 f1 f2 f3 f4 hn1 hn2 hn3 hn4 hn5 hn6
          obtain ⟨d0, d1, d2, d3, d4⟩ := cells5 H5
          obtain ⟨e0, e1, e2, e3, e4⟩ := cells5 HTn
          obtain ⟨g0, g1, g2, g3, g4⟩ := frz5 HTn
          have HTn := Lib.hid HTn
          have HKn := Lib.hid HKn
          have HNn := Lib.hid (HOn.nslB)
          clear H5 HOn
          go_wp2
          have HF := bset5 (bset5 (bset5 (bset5 (bset5 HTn.out 0 (.int .i64 cch)) 1 (.int .u64 (cep + 1))) 2 (.slice a1 ns.length cp1)) 3 (.bool false)) 4 (.int .i64 jn)
          have HKE := ((((HKn.out.setCell (p := ⟨w.heap.size + 2, 0, none⟩) (.inr (Nat.le_add_right _ _)) (.int .i64 cch)).setCell (p := ⟨w.heap.size + 2, 1, none⟩) (.inr (Nat.le_add_right _ _)) (.int .u64 (cep + 1))).setCell (p := ⟨w.heap.size + 2, 2, none⟩) (.inr (Nat.le_add_right _ _)) (.slice a1 ns.length cp1)).setCell (p := ⟨w.heap.size + 2, 3, none⟩) (.inr (Nat.le_add_right _ _)) (.bool false)).setCell (p := ⟨w.heap.size + 2, 4, none⟩) (.inr (Nat.le_add_right _ _)) (.int .i64 jn)
          have HKS := (((((Kept.refl (fun k => k = w.heap.size + 2) W2).setCell (p := ⟨w.heap.size + 2, 0, none⟩) (.inl rfl) (.int .i64 cch)).setCell (p := ⟨w.heap.size + 2, 1, none⟩) (.inl rfl) (.int .u64 (cep + 1))).setCell (p := ⟨w.heap.size + 2, 2, none⟩) (.inl rfl) (.slice a1 ns.length cp1)).setCell (p := ⟨w.heap.size + 2, 3, none⟩) (.inl rfl) (.bool false)).setCell (p := ⟨w.heap.size + 2, 4, none⟩) (.inl rfl) (.int .i64 jn)
          have HNE := (HNn.out.kept HKS (fun k _ h e => by have := HSZ.out; omega)).mono (G := fun k => w.heap.size ≤ k) (fun k _ h => by have := HSZ.out; omega)
          clear HKS d0 d1 d2 d3 d4 e0 e1 e2 e3 e4 g0 g1 g2 g3 g4 m0 m1 m2 m3
          obtain ⟨r0, r1, r2, r3, r4⟩ := cells5 (x0 := .int .i64 cch) (x1 := .int .u64 (cep + 1)) (x2 := .slice a1 ns.length cp1) (x3 := .bool false) (x4 := .int .i64 jn) HF
          clear HF HTn
          generalize hW : World.setCell _ _ _ = W3 at r0 r1 r2 r3 r4 HKE HNE ⊢
          rw [HRR.out]
          exact bodyPost_ret (v := .agg #[.int .i64 cch, .int .u64 (cep + 1), .slice a1 ns.length cp1, .bool false, .int .i64 jn]) (by simp [results, Try.results82, go_sem, r0, r1, r2, r3, r4]) rfl ⟨_, rfl, ⟨_, rfl, HNE, HEB.out.1, HEB.out.2, by have := HWL.out; simpa using this⟩, HKE⟩
end Go.Proofs.Ytidhaofojcdbaaa
namespace Go.Proofs.Ytidhaofojcdbaaa
open Go.RowKit
set_option linter.unusedVariables false

theorem bset1 {w : World} {g : Nat} {cs : Array Value} {t : TypeId} {fr : Nat × Nat} (h : w.heap[g]? = some (.cells cs t fr)) (i : Nat) (u : Value) :
    (w.setCell ⟨g, i, none⟩ u).heap[g]? = some (.cells (cs.setIfInBounds i u) t fr) := by simp [World.setCell, Array.getElem?_modify, h]
theorem heap_puts {g : Nat} {t : TypeId} {fr : Nat × Nat} : ∀ (vs : List Value) (o : Nat) (w : World) (cur : Array Value), w.heap[g]? = some (.cells cur t fr) → o + vs.length ≤ cur.size →
    ∃ cur', (w.setCells g o vs).heap[g]? = some (.cells cur' t fr) ∧ cur'.size = cur.size ∧ cur'.toList = cur.toList.take o ++ vs ++ cur.toList.drop (o + vs.length)
  | [], o, w, cur, h, hl => ⟨cur, h, rfl, by simp⟩
  | v :: vs, o, w, cur, h, hl => by
    simp only [List.length_cons] at hl
    obtain ⟨cur', h1, h2, h3⟩ := heap_puts vs (o + 1) (w.setCell ⟨g, o, none⟩ v) (cur.setIfInBounds o v) (bset1 h o v) (by simp; omega)
    refine ⟨cur', h1, by simpa using h2, ?_⟩
    rw [h3, Array.toList_setIfInBounds]
    have hlt : o < cur.toList.length := by simp; omega
    have e1 : (cur.toList.set o v).take (o + 1) = cur.toList.take o ++ [v] := by
      rw [List.take_succ_eq_append_getElem (by simpa using hlt)]
      simp [List.take_set_of_le]
    rw [e1, List.drop_set_of_lt (by omega)]
    simp only [List.append_assoc, List.cons_append, List.nil_append, List.length_cons]
    rw [show o + 1 + vs.length = o + (vs.length + 1) by omega]
theorem kept_puts {S : Nat → Prop} {g : Nat} {a : World} (hS : S g ∨ a.heap.size ≤ g) : ∀ (vs : List Value) (o : Nat) (w : World), Kept S a w → Kept S a (w.setCells g o vs)
  | [], _, _, h => h
  | v :: vs, o, w, h => kept_puts hS vs (o + 1) _ (h.setCell (p := ⟨g, o, none⟩) hS v)
theorem zero_int (w : World) : (zeroValue 3).run Try.prog w = .ok (.int .i64 0) w := by kernel_rfl
set_option maxRecDepth 100000 in
/-- The first place where p holds. -/
theorem IndexP_any (v : Value) (l : List Int) (f : FuncId) (caps : Array Value) (p : Int → Bool) (F : Nat → Prop) (w : World) (h : NSl w F v l) (hp : TellsN f caps l p w) :
    Calls Try.prog 130 #[v, .func (.func f) #[] caps] w fun e w' => (∃ r : Int, e = .returned (.int .i64 r) ∧ ((r = -1 ∧ l.any p = false) ∨ (∃ k : Nat, r = k ∧ k < l.length ∧ (l.take k).any p = false ∧ p (l.getD k 0) = true))) ∧ Kept NoB w w' := by
  obtain ⟨a, cap, rfl, _⟩ := id h
  have hl := len_le h
  have H := Lib.hid h
  have HP := Lib.hid hp.2
  have hent : ∀ (args : Array Value) (w : World), Sem.run Try.prog (callFunc f args) w = .ok (.enter f args) w := hp.1
  clear h hp
  go_enter Try.func130, Try.ntmps130
  go_wp2
  go_loopw [8] (fun i wr => ∃ k : Nat, i = .int .i64 k ∧ k ≤ l.length ∧ (l.take k).any p = false ∧ Kept NoB w wr) (fun i _ => l.length - (intOf i).toNat)
  case atStart => exact ⟨0, rfl, Nat.zero_le _, by simp, Kept.refl _ _⟩
  case round =>
    obtain ⟨k, rfl, hk, hno, hkk⟩ := hrel
    have HN := Lib.hid hno
    have HK := Lib.hid hkk
    clear hno hkk
    by_cases hlt : k < l.length
    · obtain ⟨b, o, rfl, _, _, hc⟩ := (H.out.kept HK.out (fun _ _ _ h => h)).at_ hlt
      have HT := Lib.hid (take_one hlt)
      have HA : Hid (l.getD k 0 ∈ l) := Lib.hid (by rw [getD_at hlt]; exact List.getElem_mem _)
      obtain ⟨y, hy⟩ : ∃ y, y = l.getD k 0 := ⟨_, rfl⟩
      have HY := Lib.hid hy
      rw [← hy] at hc HT HA
      have hk1 : (k : Int) < (l.length : Int) := by omega
      have HC := Lib.hid (HP.out y wr HA.out HK.out)
      clear hy
      cases hpy : p y with
      | true =>
        rw [hpy] at HC
        have HPY : Hid (p (l.getD k 0) = true) := Lib.hid (by rw [← HY.out]; exact hpy)
        clear hpy
        go_wp2_with fail
        refine HC.out.mono ?_
        rintro e w2 ⟨rfl, hk2⟩
        have HK2 := Lib.hid (HK.out.trans hk2 (fun _ _ h => h))
        clear hk2
        go_wp2
        go_ret
        exact ⟨⟨_, rfl, .inr ⟨k, rfl, hlt, HN.out, HPY.out⟩⟩, HK2.out⟩
      | false =>
        rw [hpy] at HC
        have HPY : Hid ((l.take (k + 1)).any p = false) := Lib.hid (by rw [HT.out, List.any_append, HN.out]; simp [hpy])
        clear hpy
        go_wp2_with fail
        refine HC.out.mono ?_
        rintro e w2 ⟨rfl, hk2⟩
        have HK2 := Lib.hid (HK.out.trans hk2 (fun _ _ h => h))
        clear hk2
        go_wp2
        exact ⟨⟨k + 1, by go_num, by omega, HPY.out, HK2.out⟩, by simp [intOf]; omega⟩
    · obtain rfl : k = l.length := by omega
      go_wp2
      go_ret
      exact ⟨⟨_, rfl, .inl ⟨rfl, by have := HN.out; rwa [List.take_length] at this⟩⟩, HK.out⟩
abbrev keep (l : List Int) (p : Int → Bool) : List Int := l.filter (fun y => !p y)
theorem keep_take {l : List Int} {p : Int → Bool} {k : Nat} (h : k < l.length) : keep (l.take (k + 1)) p = keep (l.take k) p ++ if p (l.getD k 0) = true then [] else [l.getD k 0] := by
  unfold keep
  rw [take_one h, List.filter_append]
  congr 1
  cases hp : p (l.getD k 0) with
  | true => rw [if_pos rfl]; simpa using hp
  | false => rw [if_neg (by decide)]; simpa using hp
theorem keep_all {l : List Int} {p : Int → Bool} (h : l.any p = false) : keep l p = l := by
  unfold keep
  rw [List.filter_eq_self]
  intro x hx
  have := List.any_eq_false.1 h x hx
  simpa using this
theorem keep_le (l : List Int) (p : Int → Bool) : (keep l p).length ≤ l.length := List.length_filter_le _ _
/-- Where the loop stands: jj numbers have been looked at. -/
def DelI (g c : Nat) (p : Int → Bool) (l : List Int) (w wr : World) (jj : Nat) : Prop :=
  ∃ cur : Array Value, wr.heap[g]? = some (.cells cur 3 (0, 0)) ∧ cur.size = c ∧ cur.toList.take (keep (l.take jj) p).length = ivs (keep (l.take jj) p) ∧ (∀ m, jj ≤ m → m < l.length → cur[m]? = some (.int .i64 (l.getD m 0))) ∧ Kept (fun k => k = g) w wr
theorem DelI.keep {g c : Nat} {p : Int → Bool} {l : List Int} {w wr w2 : World} {jj : Nat} (h : DelI g c p l w wr jj) (hk : Kept NoB wr w2) : DelI g c p l w w2 jj := by
  obtain ⟨cur, h1, h2, h3, h4, h5⟩ := h
  exact ⟨cur, hk.heap (fun h => h) h1, h2, h3, h4, h5.trans hk (fun _ _ h => h.elim)⟩
theorem DelI.skip {g c : Nat} {p : Int → Bool} {l : List Int} {w wr : World} {jj : Nat} (h : DelI g c p l w wr jj) (hj : jj < l.length) (hm : p (l.getD jj 0) = true) : DelI g c p l w wr (jj + 1) ∧ (Go.Proofs.Ytidhaofojcdbaaa.keep (l.take (jj + 1)) p).length = (Go.Proofs.Ytidhaofojcdbaaa.keep (l.take jj) p).length := by
  obtain ⟨cur, h1, h2, h3, h4, h5⟩ := h
  have e : Go.Proofs.Ytidhaofojcdbaaa.keep (l.take (jj + 1)) p = Go.Proofs.Ytidhaofojcdbaaa.keep (l.take jj) p := by rw [keep_take hj, if_pos hm, List.append_nil]
  exact ⟨⟨cur, h1, h2, by rw [e]; exact h3, fun m hm1 hm2 => h4 m (by omega) hm2, h5⟩, by rw [e]⟩
theorem DelI.put {g c i : Nat} {p : Int → Bool} {l : List Int} {w wr : World} {jj : Nat} (h : DelI g c p l w wr jj) (hj : jj < l.length) (hm : p (l.getD jj 0) = false) (hi : i = (Go.Proofs.Ytidhaofojcdbaaa.keep (l.take jj) p).length) (hij : i < jj) (hlc : l.length ≤ c) :
    DelI g c p l w (wr.setCell ⟨g, i, none⟩ (.int .i64 (l.getD jj 0))) (jj + 1) ∧ (Go.Proofs.Ytidhaofojcdbaaa.keep (l.take (jj + 1)) p).length = i + 1 := by
  obtain ⟨cur, h1, h2, h3, h4, h5⟩ := h
  have e : Go.Proofs.Ytidhaofojcdbaaa.keep (l.take (jj + 1)) p = Go.Proofs.Ytidhaofojcdbaaa.keep (l.take jj) p ++ [l.getD jj 0] := by rw [keep_take hj, if_neg (by rw [hm]; decide)]
  have e2 : (Go.Proofs.Ytidhaofojcdbaaa.keep (l.take (jj + 1)) p).length = i + 1 := by rw [e, List.length_append, ← hi]; rfl
  refine ⟨⟨_, bset1 h1 i _, by simpa using h2, ?_, fun m hm1 hm2 => ?_, h5.setCell (p := ⟨g, i, none⟩) (.inl rfl) _⟩, e2⟩
  · rw [e2, e]
    unfold ivs
    rw [List.map_append]
    have h3' : cur.toList.take i = (Go.Proofs.Ytidhaofojcdbaaa.keep (l.take jj) p).map (Value.int .i64) := by rw [hi]; exact h3
    rw [← h3']
    simp only [Array.toList_setIfInBounds]
    have hl : i < cur.toList.length := by rw [Array.length_toList, h2]; omega
    rw [List.take_add_one, List.getElem?_set_self (by simpa using hl), List.take_set_of_le (Nat.le_refl _)]
    simp
  · rw [Array.getElem?_setIfInBounds, if_neg (by omega)]
    exact h4 m (by omega) hm2
theorem IOwn.parts {B : Nat} {w : World} {a : Option Addr} {n c : Nat} {l : List Int} (h : IOwn B w (.slice a n c) l) (hl : 0 < l.length) :
    ∃ g cur, a = some ⟨g, 0, none⟩ ∧ B ≤ g ∧ w.heap[g]? = some (.cells cur 3 (0, 0)) ∧ cur.size = c ∧ l.length ≤ c ∧ c ≤ maxLen ∧ ∀ m, m < l.length → cur[m]? = some (.int .i64 (l.getD m 0)) := by
  rcases h.2 with ⟨_, h0⟩ | ⟨g, cap, cur, hv, hb, hr, hc, hm, hs, ht⟩
  · omega
  · injection hv with hv hn hcap
    subst hcap
    refine ⟨g, cur, hv, hb, hr, by omega, hc, hm, fun m hm => ?_⟩
    have : (ivs l)[m]? = some (.int .i64 (l.getD m 0)) := by
      unfold ivs
      rw [List.getElem?_map, List.getElem?_eq_getElem hm, getD_at hm]
      rfl
    rw [← ht, List.getElem?_take, if_pos (by omega)] at this
    simpa using this
set_option maxRecDepth 100000 in
set_option maxHeartbeats 1000000 in
theorem Delete_any (B c : Nat) (a : Option Addr) (l : List Int) (f : FuncId) (caps : Array Value) (p : Int → Bool) (w : World) (hown : IOwn B w (.slice a l.length c) l) (hl : l.length ≤ 1000)
    (hent : ∀ (args : Array Value) (w : World), Sem.run Try.prog (callFunc f args) w = .ok (.enter f args) w)
    (hp : ∀ x w', x ∈ l → Kept (fun k => (Value.slice a l.length c).ownBlock = some k) w w' → Calls Try.prog f (#[.int .i64 x] ++ caps) w' (BoolE (p x) w')) :
    Calls Try.prog 172 #[.slice a l.length c, .func (.func f) #[] caps] w fun e w' =>
      e = .returned (.slice a (keep l p).length c) ∧ IOwn B w' (.slice a (keep l p).length c) (keep l p) ∧ Kept (fun k => (Value.slice a l.length c).ownBlock = some k) w w' := by
  have HO := Lib.hid hown
  have HX := Lib.hid (IndexP_any _ l f caps p _ w hown.nslB ⟨hent, fun x w' hx hk => hp x w' hx (hk.mono (fun _ _ h => h.elim))⟩)
  have HP := Lib.hid hp
  clear hown hp
  go_enter Try.func172, Try.ntmps172
  go_wp2_with fail
  refine HX.out.mono ?_
  rintro e w1 ⟨⟨r0, rfl, (⟨rfl, hnone⟩ | ⟨k, rfl, hk, hno, hyes⟩)⟩, hk1⟩
  · have HK1 := Lib.hid hk1
    have HS := Lib.hid (keep_all hnone)
    clear hk1 hnone
    go_wp2
    go_ret
    rw [HS.out]
    exact ⟨rfl, row_keptI HO.out HK1.out (fun _ _ h => h), HK1.out.mono (fun _ _ h => h.elim)⟩
  · obtain ⟨g, cur, rfl, hBg, hcur, hcs, hlc, hcm, hcell⟩ := HO.out.parts (by omega)
    unfold maxLen at hcm
    have hst : keep (l.take (k + 1)) p = l.take k := by
      rw [keep_take hk, if_pos hyes, List.append_nil]
      exact keep_all hno
    have hd0 : DelI g c p l w w1 (k + 1) := by
      refine ⟨cur, hk1.heap (fun h => h) hcur, hcs, ?_, fun m hm1 hm2 => hcell m hm2, hk1.mono (fun _ _ h => h.elim)⟩
      rw [hst]
      refine List.ext_getElem? fun m => ?_
      rw [List.getElem?_take, List.length_take]
      split
      · rename_i hm
        have := hcell m (by omega)
        rw [Array.getElem?_toList, this]
        unfold ivs
        rw [List.getElem?_map, List.getElem?_take, if_pos (by omega), List.getElem?_eq_getElem (by omega), getD_at (by omega)]
        rfl
      · rename_i hm
        rw [List.getElem?_eq_none (by simp [ivs]; omega)]
    have hlen0 : (keep (l.take (k + 1)) p).length = k := by rw [hst, List.length_take]; omega
    have HD0 := Lib.hid hd0
    have HL0 := Lib.hid hlen0
    have hkm2 : ((k : Int) == -1) = false := by simp <;> omega
    clear hcell hcur hcs hst hd0 hlen0 hno hyes hk1
    go_wp2
    go_loopw [5, 6, 7] (fun i j _ wr => ∃ ii jj : Nat, i = .int .i64 ii ∧ j = .int .i64 jj ∧ ii = (keep (l.take jj) p).length ∧ ii < jj ∧ jj ≤ l.length ∧ DelI g c p l w wr jj) (fun _ j _ _ => l.length - (intOf j).toNat)
    case atStart => exact ⟨k, k + 1, rfl, by go_num, HL0.out.symm, by omega, by omega, HD0.out⟩
    case round =>
      obtain ⟨ii, jj, rfl, rfl, hii, hlt, hjl, hdi⟩ := hrel
      have HII := Lib.hid hii
      have HDI := Lib.hid hdi
      obtain ⟨cur, hcur, hcs, _, hce, hkd⟩ := hdi
      clear hii
      by_cases hj : jj < l.length
      · have e0 := (cell_of_row wr g jj _ _ _ hcur).trans (hce jj (Nat.le_refl _) hj)
        have HA : Hid (l.getD jj 0 ∈ l) := Lib.hid (by rw [getD_at hj]; exact List.getElem_mem _)
        obtain ⟨x, hx⟩ : ∃ x, x = l.getD jj 0 := ⟨_, rfl⟩
        rw [← hx] at e0 HA
        have HXX := Lib.hid hx
        have hj1 : (jj : Int) < (l.length : Int) := by omega
        have HC := Lib.hid (HP.out x wr HA.out (hkd.mono (fun i _ h => by rw [h]; rfl)))
        clear hcur hcs hce hkd hx
        have hnot : ∀ (x : Bool) (w : World), (Op.unary .not (.bool x)).run Try.prog w = .ok (.bool (!x)) w := fun _ _ => rfl
        go_wp2_with fail
        refine HC.out.mono ?_
        rintro e w2 ⟨rfl, hk2⟩
        have HD2 := Lib.hid (HDI.out.keep hk2)
        cases hm : p x with
        | true =>
          have HMM := Lib.hid (HD2.out.skip hj (by rw [← HXX.out]; exact hm))
          clear hm hk2
          go_wp2
          exact ⟨⟨ii, jj + 1, rfl, by go_num, by rw [HMM.out.2]; exact HII.out, by omega, by omega, HMM.out.1⟩, by simp [intOf]; omega⟩
        | false =>
          have hput := HD2.out.put hj (by rw [← HXX.out]; exact hm) HII.out hlt hlc
          rw [← HXX.out] at hput
          have HPU := Lib.hid hput
          obtain ⟨cur2, hcur2, hcs2, _⟩ := HD2.out
          have i0 : (ii : Int) < (l.length : Int) := by omega
          obtain ⟨u0, hu0⟩ : ∃ u, w2.cell? ⟨g, ii, none⟩ = some u := ⟨_, (cell_of_row w2 g ii _ _ _ hcur2).trans (Array.getElem?_eq_getElem (by omega))⟩
          have z0 : w2.frozen? ⟨g, ii, none⟩ = false := by simp [World.frozen?, hcur2]
          clear hm hk2 hput hcur2 hcs2
          go_wp2
          exact ⟨⟨ii + 1, jj + 1, by go_num, by go_num, HPU.out.2.symm, by omega, by omega, HPU.out.1⟩, by simp [intOf]; omega⟩
      · obtain rfl : jj = l.length := by omega
        have hlen : (keep l p).length = ii := by have := HII.out; rw [List.take_length] at this; exact this.symm
        have hclr := Lib.run_clear_slice (P := Try.prog) wr 82 3 0 (.int .i64 0) Try.underlying82 (fun w => zero_int w) rfl rfl g ii (l.length - ii) (c - ii) (by omega)
          (fun j hj => by rw [cell_of_row wr g (ii + j) _ _ _ hcur, Array.getElem?_eq_getElem (by omega)]; rfl) (fun j _ => by simp [World.frozen?, hcur])
        have HLEN := Lib.hid hlen
        have HCUR := Lib.hid hcur
        have HCS := Lib.hid hcs
        have i0 : (ii : Int) ≤ (l.length : Int) := by omega
        have i1 : (ii : Int) ≤ (c : Int) := by omega
        have i2 : ¬ (c = ii) := by omega
        clear hce hlen hcur hcs hkd
        go_wp2
        go_ret
        obtain ⟨cur', h1, h2, h3, _, h5⟩ := HDI.out
        have hlen := HLEN.out
        rw [List.take_length, hlen] at h3
        have hcl : cur'.toList.length = c := by simpa using h2
        obtain ⟨cur3, k1, k2, k3⟩ := heap_puts (List.replicate (l.length - ii) (.int .i64 0)) ii wr cur' h1 (by simp; omega)
        refine ⟨by rw [hlen]; rfl, ?_, ?_⟩
        · refine ⟨by simp [ivs], .inr ⟨g, c, cur3, rfl, hBg, k1, by omega, by unfold maxLen; omega, by omega, ?_⟩⟩
          rw [Nat.mul_one, k3, List.append_assoc, hlen, List.take_append_of_le_length (by rw [List.length_take]; omega), List.take_of_length_le (by rw [List.length_take]; omega)]
          exact h3
        · exact (kept_puts (S := fun k => k = g) (.inl rfl) _ ii wr h5).mono (fun i _ h => by rw [h]; rfl)
end Go.Proofs.Ytidhaofojcdbaaa
namespace Go.Proofs.Ytidhaofojcdbaaa
open Go.RowKit
set_option linter.unusedVariables false

def upd (us : Nat → Value) (j : Nat) (v : Value) : Nat → Value := fun i => if i = j then v else us i
theorem upd_at (us : Nat → Value) (j : Nat) (v : Value) : upd us j v j = v := if_pos rfl
theorem upd_far {us : Nat → Value} {i j : Nat} {v : Value} (h : i ≠ j) : upd us j v i = us i := if_neg h
theorem RowC.upd {w : World} {r cap : Nat} {l : List Cf} {us : Nat → Value} (h : RowC w r cap l us) {j : Nat} (hj : j < l.length) (c' : Cf) (v x : Value) (i : Nat) (hi : i < 5)
    (hc : ∀ i', i' < 5 → cellC (l.set j c') (upd us j v) (j * 5 + i') = if i' = i then x else cellC l us (j * 5 + i')) : RowC (w.setCell ⟨r, j * 5 + i, none⟩ x) r cap (l.set j c') (Go.Proofs.Ytidhaofojcdbaaa.upd us j v) := by
  obtain ⟨cs, h1, h2, h3, h4, h5⟩ := h
  refine ⟨cs.setIfInBounds (j * 5 + i) x, bset1 h1 _ _, by simpa using h2, by rw [List.length_set]; exact h3, h4, fun m hm => ?_⟩
  rw [List.length_set] at hm
  rw [Array.getElem?_setIfInBounds]
  by_cases e : m / 5 = j
  · have hm5 : m = j * 5 + m % 5 := by omega
    rw [hm5, hc (m % 5) (by omega)]
    by_cases e2 : m % 5 = i
    · rw [if_pos (by omega), if_pos (by omega), if_pos e2]
    · rw [if_neg (by omega), if_neg e2, h5 _ (by omega)]
  · rw [if_neg (by omega), h5 m hm]
    congr 1
    unfold cellC
    rw [nthC_set hj, if_neg e, upd_far e]
theorem cell_set {l : List Cf} {us : Nat → Value} {j : Nat} (hj : j < l.length) (c' : Cf) (v : Value) (i' : Nat) (hi : i' < 5) :
    cellC (l.set j c') (upd us j v) (j * 5 + i') = if i' = 0 then .int .i64 c'.ch else if i' = 1 then .int .u64 c'.ep else if i' = 2 then v else if i' = 3 then .bool c'.fr else .int .i64 c'.jn := by
  rcases (by omega : i' = 0 ∨ i' = 1 ∨ i' = 2 ∨ i' = 3 ∨ i' = 4) with rfl | rfl | rfl | rfl | rfl
  · rw [Nat.add_zero, cellC0, nthC_set hj, if_pos rfl]; rfl
  · rw [cellC1, nthC_set hj, if_pos rfl]; rfl
  · rw [cellC2, upd_at]; rfl
  · rw [cellC3, nthC_set hj, if_pos rfl]; rfl
  · rw [cellC4, nthC_set hj, if_pos rfl]; rfl
theorem cell_old (l : List Cf) (us : Nat → Value) (j i' : Nat) (hi : i' < 5) :
    cellC l us (j * 5 + i') = if i' = 0 then .int .i64 (nthC l j).ch else if i' = 1 then .int .u64 (nthC l j).ep else if i' = 2 then us j else if i' = 3 then .bool (nthC l j).fr else .int .i64 (nthC l j).jn := by
  rcases (by omega : i' = 0 ∨ i' = 1 ∨ i' = 2 ∨ i' = 3 ∨ i' = 4) with rfl | rfl | rfl | rfl | rfl
  · rw [Nat.add_zero, cellC0]; rfl
  · rw [cellC1]; rfl
  · rw [cellC2]; rfl
  · rw [cellC3]; rfl
  · rw [cellC4]; rfl
theorem RowC.setFr {w : World} {r cap : Nat} {l : List Cf} {us : Nat → Value} (h : RowC w r cap l us) {j : Nat} (hj : j < l.length) (b : Bool) :
    RowC (w.setCell ⟨r, j * 5 + 3, none⟩ (.bool b)) r cap (l.set j { nthC l j with fr := b }) (Go.Proofs.Ytidhaofojcdbaaa.upd us j (us j)) :=
  h.upd hj _ _ _ 3 (by decide) fun i' hi => by
    rw [cell_set hj _ _ _ hi, cell_old _ _ _ _ hi]
    rcases (by omega : i' = 0 ∨ i' = 1 ∨ i' = 2 ∨ i' = 3 ∨ i' = 4) with rfl | rfl | rfl | rfl | rfl <;> rfl
theorem RowC.setJn {w : World} {r cap : Nat} {l : List Cf} {us : Nat → Value} (h : RowC w r cap l us) {j : Nat} (hj : j < l.length) (n : Int) :
    RowC (w.setCell ⟨r, j * 5 + 4, none⟩ (.int .i64 n)) r cap (l.set j { nthC l j with jn := n }) (Go.Proofs.Ytidhaofojcdbaaa.upd us j (us j)) :=
  h.upd hj _ _ _ 4 (by decide) fun i' hi => by
    rw [cell_set hj _ _ _ hi, cell_old _ _ _ _ hi]
    rcases (by omega : i' = 0 ∨ i' = 1 ∨ i' = 2 ∨ i' = 3 ∨ i' = 4) with rfl | rfl | rfl | rfl | rfl <;> rfl
theorem RowC.setEp {w : World} {r cap : Nat} {l : List Cf} {us : Nat → Value} (h : RowC w r cap l us) {j : Nat} (hj : j < l.length) (n : Int) :
    RowC (w.setCell ⟨r, j * 5 + 1, none⟩ (.int .u64 n)) r cap (l.set j { nthC l j with ep := n }) (Go.Proofs.Ytidhaofojcdbaaa.upd us j (us j)) :=
  h.upd hj _ _ _ 1 (by decide) fun i' hi => by
    rw [cell_set hj _ _ _ hi, cell_old _ _ _ _ hi]
    rcases (by omega : i' = 0 ∨ i' = 1 ∨ i' = 2 ∨ i' = 3 ∨ i' = 4) with rfl | rfl | rfl | rfl | rfl <;> rfl
theorem RowC.setNs {w : World} {r cap : Nat} {l : List Cf} {us : Nat → Value} (h : RowC w r cap l us) {j : Nat} (hj : j < l.length) (v : Value) (ns : List Int) :
    RowC (w.setCell ⟨r, j * 5 + 2, none⟩ v) r cap (l.set j { nthC l j with ns := ns }) (Go.Proofs.Ytidhaofojcdbaaa.upd us j v) :=
  h.upd hj _ _ _ 2 (by decide) fun i' hi => by
    rw [cell_set hj _ _ _ hi, cell_old _ _ _ _ hi]
    rcases (by omega : i' = 0 ∨ i' = 1 ∨ i' = 2 ∨ i' = 3 ∨ i' = 4) with rfl | rfl | rfl | rfl | rfl <;> rfl
theorem OwnC.upd {B : Nat} {S : Nat → Prop} {w w' : World} {l : List Cf} {us : Nat → Value} (h : OwnC B w l us) (hk : Kept S w w') {j : Nat} (hj : j < l.length) (c' : Cf) (v : Value)
    (hS : ∀ i, i < l.length → i ≠ j → ∀ k, (us i).ownBlock = some k → ¬ S k) (hv : IOwn B w' v c'.ns) (hb : 0 ≤ c'.ep ∧ c'.ep ≤ topE ∧ c'.ns.length ≤ 1000)
    (hap : ∀ i, i < l.length → i ≠ j → ∀ k, v.ownBlock = some k → (us i).ownBlock ≠ some k) : OwnC B w' (l.set j c') (Go.Proofs.Ytidhaofojcdbaaa.upd us j v) := by
  refine ⟨fun i hi => ?_, fun i m k hi hm him h1 h2 => ?_⟩
  · rw [List.length_set] at hi
    rw [nthC_set hj]
    by_cases e : i = j
    · rw [if_pos e, e, upd_at]
      exact ⟨hv, hb⟩
    · rw [if_neg e, upd_far e]
      exact ⟨row_keptI (h.1 i hi).1 hk (hS i hi e), (h.1 i hi).2⟩
  · rw [List.length_set] at hi hm
    by_cases e : i = j
    · subst e
      rw [upd_at] at h1
      rw [upd_far (fun x => him x.symm)] at h2
      exact hap m hm (fun x => him x.symm) k h1 h2
    · rw [upd_far e] at h1
      by_cases e2 : m = j
      · subst e2
        rw [upd_at] at h2
        exact hap i hi e k h2 h1
      · rw [upd_far e2] at h2
        exact h.2 i m k hi hm him h1 h2
/-- A store into the row leaves all nodes as they were. -/
theorem OwnC.store {B r cap o : Nat} {w : World} {l : List Cf} {us : Nat → Value} (h : OwnC B w l us) (hr : RowC w r cap l us) {j : Nat} (hj : j < l.length) (c' : Cf) (x : Value) (hn : c'.ns = (nthC l j).ns) (hb : 0 ≤ c'.ep ∧ c'.ep ≤ topE) :
    OwnC B (w.setCell ⟨r, o, none⟩ x) (l.set j c') (Go.Proofs.Ytidhaofojcdbaaa.upd us j (us j)) := by
  have hk : Kept (fun k => k = r) w (w.setCell ⟨r, o, none⟩ x) := (Kept.refl (fun k => k = r) w).setCell (p := ⟨r, o, none⟩) (.inl rfl) x
  refine h.upd hk hj c' _ (fun i hi _ k hk2 e => row_ne hr (h.1 i hi).1 (e ▸ hk2)) ?_ ⟨hb.1, hb.2, by rw [hn]; exact (h.1 j hj).2.2.2⟩ (fun i hi hij k h1 h2 => h.2 i j k hi hj hij h2 h1)
  rw [hn]
  exact row_keptI (h.1 j hj).1 hk (fun i h1 h2 => row_ne hr (h.1 j hj).1 (h2 ▸ h1))
def DoEnd (B r cap : Nat) (l' : List Cf) (w : World) (e : Ending) (w' : World) : Prop := e = .returned (.tuple #[]) ∧ (∃ us', RowC w' r cap l' us' ∧ OwnC B w' l' us') ∧ Kept (fun k => B ≤ k) w w'
/-- What a command makes, but for the epoch. -/
def turnC (c : Cf) (k nd : Int) : Cf := { madeC c k nd with ep := c.ep }
theorem turn2 (c : Cf) (nd : Int) : turnC c 2 nd = { c with jn := nd } := by unfold turnC madeC; rw [if_neg (by decide), if_pos rfl]
theorem turn3 (c : Cf) (nd : Int) : turnC c 3 nd = { c with ns := c.ns ++ [nd], fr := true, jn := 0 } := by unfold turnC madeC; rw [if_neg (by decide), if_neg (by decide), if_pos rfl]
theorem turn4 (c : Cf) (nd : Int) : turnC c 4 nd = { c with fr := false } := by unfold turnC madeC; rw [if_neg (by decide), if_neg (by decide), if_neg (by decide)]
theorem turn1 (c : Cf) (nd : Int) : turnC c 1 nd = if c.jn = nd then { c with jn := 0 } else { c with ns := c.ns.filter (fun x => decide (x ≠ nd)), fr := c.fr && decide (c.last ≠ nd) } := by
  unfold turnC madeC
  rw [if_pos rfl]
  split <;> rfl
theorem set_set (l : List Cf) (j : Nat) (a b : Cf) : (l.set j a).set j b = l.set j b := by simp
theorem nthC_sets {l : List Cf} {j : Nat} (hj : j < l.length) (a : Cf) : nthC (l.set j a) j = a := by rw [nthC_set hj, if_pos rfl]
theorem do_append (B r cap : Nat) (l : List Cf) (us : Nat → Value) (j : Nat) (nd : Int) (w : World) (hr : RowC w r cap l us) (ho : OwnC B w l us) (hB : B ≤ r) (hj : j < l.length) :
    Calls Try.prog 142 #[.pointer (some ⟨r, j * 5, none⟩), .int .i64 nd] w (DoEnd B r cap (l.set j (turnC (nthC l j) 2 nd)) w) := by
  obtain ⟨c4, f4⟩ := hr.cell (m := j * 5 + 4) (by omega)
  have HE : Hid (DoEnd B r cap (l.set j (turnC (nthC l j) 2 nd)) w (.returned (.tuple #[])) (w.setCell ⟨r, j * 5 + 4, none⟩ (.int .i64 nd))) := Lib.hid (by
    rw [turn2]
    exact ⟨rfl, ⟨_, hr.setJn hj nd, ho.store hr hj { nthC l j with jn := nd } _ rfl ⟨(ho.1 j hj).2.1, (ho.1 j hj).2.2.1⟩⟩, (Kept.refl _ w).setCell (p := ⟨r, j * 5 + 4, none⟩) (.inl hB) _⟩)
  clear hr ho
  go_enter Try.func142, Try.ntmps142
  go_wp2
  go_end0
  exact HE.out
theorem do_settle (B r cap : Nat) (l : List Cf) (us : Nat → Value) (j : Nat) (nd : Int) (w : World) (hr : RowC w r cap l us) (ho : OwnC B w l us) (hB : B ≤ r) (hj : j < l.length) :
    Calls Try.prog 146 #[.pointer (some ⟨r, j * 5, none⟩), .int .i64 nd] w (DoEnd B r cap (l.set j (turnC (nthC l j) 4 nd)) w) := by
  obtain ⟨c4, f4⟩ := hr.cell (m := j * 5 + 3) (by omega)
  have HE : Hid (DoEnd B r cap (l.set j (turnC (nthC l j) 4 nd)) w (.returned (.tuple #[])) (w.setCell ⟨r, j * 5 + 3, none⟩ (.bool false))) := Lib.hid (by
    rw [turn4]
    exact ⟨rfl, ⟨_, hr.setFr hj false, ho.store hr hj { nthC l j with fr := false } _ rfl ⟨(ho.1 j hj).2.1, (ho.1 j hj).2.2.1⟩⟩, (Kept.refl _ w).setCell (p := ⟨r, j * 5 + 3, none⟩) (.inl hB) _⟩)
  clear hr ho
  go_enter Try.func146, Try.ntmps146
  go_wp2
  go_end0
  exact HE.out
theorem OwnC.kept {B : Nat} {S : Nat → Prop} {w w' : World} {l : List Cf} {us : Nat → Value} (h : OwnC B w l us) (hk : Kept S w w') (hS : ∀ i, i < l.length → ∀ k, (us i).ownBlock = some k → ¬ S k) : OwnC B w' l us :=
  ⟨fun i hi => ⟨row_keptI (h.1 i hi).1 hk (hS i hi), (h.1 i hi).2⟩, h.2⟩
theorem OwnC.slice {B : Nat} {w : World} {l : List Cf} {us : Nat → Value} (h : OwnC B w l us) {j : Nat} (hj : j < l.length) : ∃ a c, us j = .slice a (nthC l j).ns.length c := (h.1 j hj).1.form
theorem kept_le {B r o : Nat} {a w : World} (h : Kept (fun k => B ≤ k) a w) (hB : B ≤ r) (x : Value) : Kept (fun k => B ≤ k) a (w.setCell ⟨r, o, none⟩ x) := h.setCell (p := ⟨r, o, none⟩) (.inl hB) x
set_option maxRecDepth 100000 in
set_option maxHeartbeats 1000000 in
theorem do_promote (B r cap : Nat) (l : List Cf) (us : Nat → Value) (j : Nat) (nd : Int) (w : World) (hr : RowC w r cap l us) (ho : OwnC B w l us) (hB : B ≤ r) (hBw : B ≤ w.heap.size) (hj : j < l.length) (h5 : (nthC l j).ns.length ≤ 5) :
    Calls Try.prog 144 #[.pointer (some ⟨r, j * 5, none⟩), .int .i64 nd] w (DoEnd B r cap (l.set j (turnC (nthC l j) 3 nd)) w) := by
  obtain ⟨a, c, hus⟩ := ho.slice hj
  have e2 := (hr.cell (m := j * 5 + 2) (by omega)).1
  rw [cellC2, hus] at e2
  have HR := Lib.hid hr
  have HO := Lib.hid ho
  have hou : IOwn B w (.slice a (nthC l j).ns.length c) (nthC l j).ns := by rw [← hus]; exact (ho.1 j hj).1
  obtain ⟨ns, hns⟩ : ∃ ns, ns = (nthC l j).ns := ⟨_, rfl⟩
  rw [← hns] at e2 h5 hou hus
  have HUS := Lib.hid hus
  have HOU := Lib.hid (row_keptI hou ((Kept.refl NoB w).alloc (.cells #[.int .i64 nd] 3)) (fun _ _ h => h))
  have HNS := Lib.hid hns
  have HON := Lib.hid (nsl_one (heap_alloc_new w (.cells #[.int .i64 nd] 3)))
  have HSZ : Hid (B ≤ (w.alloc (.cells #[.int .i64 nd] 3)).heap.size) := Lib.hid (by simp; omega)
  have hrl := hr.lt
  clear hr ho hus hou hns
  go_enter Try.func144, Try.ntmps144
  go_wp2_with (at_builtin; refine wpList_append_nsl _ rfl (.tmp 8) (.tmp 10) rfl B (.slice a ns.length c) ns rfl HOU.out (fun _ => True) (.slice (some ⟨w.heap.size, 0, none⟩) 1 1) [nd] rfl HON.out (by simp; omega) HSZ.out ?_; intro a1 c1 w1 hown1 hg1 hat1; have hk1 : Kept (fun k => (Value.slice a ns.length c).ownBlock = some k) w w1 := ((Kept.refl _ w).alloc _).grown hg1 (fun k hk => .inl hk); have hr1 := HR.out.kept hk1 (fun h => row_ne HR.out (HO.out.1 j hj).1 (by rw [HUS.out]; exact h)); have HK1 := Lib.hid hk1; have HR1 := Lib.hid hr1; have HOW1 := Lib.hid hown1; have HAT := Lib.hid hat1; obtain ⟨d2, f2⟩ := hr1.cell (m := j * 5 + 2) (by omega); obtain ⟨d3, f3⟩ := hr1.cell (m := j * 5 + 3) (by omega); obtain ⟨d4, f4⟩ := hr1.cell (m := j * 5 + 4) (by omega); clear hk1 hr1 hown1 hg1 hat1)
  go_end0
  have hown : IOwn B w1 (.slice a1 (ns.length + 1) c1) (ns ++ [nd]) := by simpa using HOW1.out
  have hr1 := HR1.out
  have hs1 := hr1.setNs hj (.slice a1 (ns.length + 1) c1) (ns ++ [nd])
  have hkr : Kept (fun k => k = r) w1 (w1.setCell ⟨r, j * 5 + 2, none⟩ (.slice a1 (ns.length + 1) c1)) := (Kept.refl (fun k => k = r) w1).setCell (p := ⟨r, j * 5 + 2, none⟩) (.inl rfl) _
  have ho1 : OwnC B w1 (l.set j { nthC l j with ns := ns ++ [nd] }) (upd us j (.slice a1 (ns.length + 1) c1)) := HO.out.upd HK1.out hj _ _ (fun i hi hij k hk h => HO.out.2 i j k hi hj hij hk (by rw [HUS.out]; exact h)) hown ⟨(HO.out.1 j hj).2.1, (HO.out.1 j hj).2.2.1, by show (ns ++ [nd]).length ≤ 1000; simp; omega⟩ (fun i hi hij k hk h => by
    rcases HAT.out with e | e
    · have e : (Value.slice a1 (ns.length + 1) c1).ownBlock = _ := e
      rw [e] at hk
      exact HO.out.2 i j k hi hj hij h (by rw [HUS.out]; exact hk)
    · have e : (Value.slice a1 (ns.length + 1) c1).ownBlock = _ := e
      rw [e] at hk
      injection hk with hk
      have h2 := (World.ownsRow.lt (HO.out.1 i hi).1 k h).2
      rw [← hk] at h2
      simp at h2
      omega)
  have ho2 := ho1.kept hkr (fun i hi k h1 h2 => row_ne hr1 (ho1.1 i hi).1 (h2 ▸ h1))
  have hj1 : j < (l.set j { nthC l j with ns := ns ++ [nd] }).length := by rw [List.length_set]; exact hj
  have hb0 := (HO.out.1 j hj).2
  have hs2 := hs1.setFr hj1 true
  have ho3 := ho2.store hs1 (o := j * 5 + 3) hj1 { nthC (l.set j { nthC l j with ns := ns ++ [nd] }) j with fr := true } (.bool true) rfl (by rw [nthC_sets hj]; exact ⟨hb0.1, hb0.2.1⟩)
  rw [nthC_sets hj, set_set] at hs2 ho3
  have hj2 : j < (l.set j { nthC l j with ns := ns ++ [nd], fr := true }).length := by rw [List.length_set]; exact hj
  have hs3 := hs2.setJn hj2 0
  have ho4 := ho3.store hs2 (o := j * 5 + 4) hj2 { nthC (l.set j { nthC l j with ns := ns ++ [nd], fr := true }) j with jn := 0 } (.int .i64 0) rfl (by rw [nthC_sets hj]; exact ⟨hb0.1, hb0.2.1⟩)
  rw [nthC_sets hj, set_set] at hs3 ho4
  have HF : l.set j (turnC (nthC l j) 3 nd) = l.set j { nthC l j with ns := ns ++ [nd], fr := true, jn := 0 } := by rw [turn3, ← HNS.out]
  rw [HF]
  exact ⟨rfl, ⟨_, hs3, ho4⟩, kept_le (kept_le (kept_le (HK1.out.mono (fun k hk h => (World.ownsRow.lt (HO.out.1 j hj).1 k (by rw [HUS.out]; exact h)).1)) hB _) hB _) hB _⟩
end Go.Proofs.Ytidhaofojcdbaaa
