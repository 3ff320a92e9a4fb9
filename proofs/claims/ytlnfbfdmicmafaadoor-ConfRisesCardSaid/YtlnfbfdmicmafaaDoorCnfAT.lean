/-
  The walk of ConfRises.
-/
import Derived.Test.YtlnfbfdmicmafaaDoorCnfAS
import Derived.Test.YtlnfbfdmicmafaaDoorCnfAJ
import Derived.Test.YtlnfbfdmicmafaaDoorCnfAM
import Derived.Test.YtlnfbfdmicmafaaDoorCnfAV
namespace Go.Proofs.YtlnfbfdmicmafaaDoor
open Go.RowKit Go.Sort Go.Lib
set_option linter.unusedVariables false
set_option linter.unusedSimpArgs false

theorem beg_all (chains per : Int) : (begX chains per = 0 ∧ AllC (begC chains per)) ∨ begX chains per = 1 := by
  unfold begX begC
  cases h : begB chains per with
  | false => exact .inr rfl
  | true =>
    have hb : 1 ≤ chains ∧ chains ≤ 4 ∧ 1 ≤ per ∧ per ≤ 5 := of_decide_eq_true h
    exact .inl ⟨rfl, begL_all (by omega) (by omega) (by omega) (by omega)⟩
set_option maxRecDepth 100000 in
set_option maxHeartbeats 20000000 in
theorem ConfRises_any (chains per : Int) (v : Value) (n : Nat) (it : Nat → CmQ) (w : World) (hv : CmR w v n it) (ht : Tab9 w) : Calls Tryd.prog 5 #[.int .i64 chains, .int .i64 per, v] w (BoolE true w) := by
  obtain ⟨va, vc, rfl, hn, _⟩ := id hv
  have HV := Lib.hid hv
  have HB1 := Lib.hid (fun w' => Begin_any chains per w')
  have HB2 := Lib.hid (fun w' => RBegin_any chains per w')
  have HBX := Lib.hid (beg_all chains per)
  have HAW := Lib.hid (fun w' (hk : Kept NoB w w') => awake9 w' (ht.kept hk))
  unfold BegE at HB1 HB2
  obtain ⟨x, hx⟩ : ∃ x, x = begX chains per := ⟨_, rfl⟩
  obtain ⟨L, hL⟩ : ∃ x, x = begC chains per := ⟨_, rfl⟩
  rw [← hx, ← hL] at HB1 HB2 HBX
  clear hv ht hx hL
  go_enter Tryd.func5, Tryd.ntmps5
  go_wp2_with fail
  refine (HB1.out _).mono ?_
  rintro e w1 ⟨u1, rfl, hc1, hk1⟩
  have HC1 := Lib.hid (hc1.mono (G := AnyB) (fun _ _ _ => trivial))
  have HK1 := Lib.hid hk1
  clear hc1 hk1
  go_wp2_with fail
  refine (HB2.out _).mono ?_
  rintro e w2 ⟨u2, rfl, hc2, hk2⟩
  have HC2 := Lib.hid (hc2.mono (G := AnyB) (fun _ _ _ => trivial))
  have HC1b := Lib.hid (HC1.out.kept hk2 (fun _ _ _ h => h))
  have HK2 := Lib.hid (HK1.out.trans hk2 (fun _ _ h => h))
  have zx : (x != x) = false := by simp
  clear hc2 hk2
  go_wp2_with fail
  refine (SameAll_any _ _ L L AnyB AnyB w2 HC1b.out HC2.out).mono ?_
  rintro e w3 ⟨rfl, hk3⟩
  rw [decide_eq_true rfl]
  have HC3 := Lib.hid (HC1b.out.kept hk3 (fun _ _ _ h => h))
  have HK3 := Lib.hid (HK2.out.trans hk3 (fun _ _ h => h))
  clear hk3 zx
  go_wp2_with fail
  go_loopw [7, 11] (fun q i wr => ∃ (k : Nat) (l : List Cf), i = .int .i64 k ∧ k ≤ n ∧ CfsAt wr AnyB q l ∧ (x = 0 → AllC l) ∧ Kept NoB w wr) (fun _ i _ => n - (RowKit.intOf i).toNat)
  case atStart => exact ⟨0, L, rfl, Nat.zero_le _, HC3.out, (fun h => by rcases HBX.out with h1 | h1 <;> first | exact h1.2 | omega), HK3.out⟩
  case round =>
    obtain ⟨k, l, rfl, hk, hcf, hall, hkk⟩ := hrel
    have HKR := Lib.hid hkk
    have HCF := Lib.hid hcf
    have HAL := Lib.hid hall
    obtain ⟨xa, xc, rfl, _⟩ := id hcf
    clear hkk hcf hall
    by_cases hlt : k < n
    · have hk1 : (k : Int) < (n : Int) := by omega
      by_cases h60 : k < 60
      · have hk60 : (k : Int) < 60 := by omega
        rcases (show x = 0 ∨ x = 1 by rcases HBX.out with h | h <;> omega) with rfl | rfl
        · have hA := HAL.out rfl
          have hA4 : l.length ≤ 4 := hA.2.1
          obtain ⟨cb, co, rfl, e0, e1, e2, e3, e4⟩ := HV.out.at_ HKR.out hlt
          obtain ⟨ck, hck⟩ : ∃ x, x = (it k).k := ⟨_, rfl⟩
          obtain ⟨cch, hcch⟩ : ∃ x, x = (it k).ch := ⟨_, rfl⟩
          obtain ⟨cep, hcep⟩ : ∃ x, x = (it k).ep := ⟨_, rfl⟩
          obtain ⟨cnd, hcnd⟩ : ∃ x, x = (it k).nd := ⟨_, rfl⟩
          have HCM := Lib.hid (fun w' (hk : Kept NoB w w') => HV.out.at_ hk hlt)
          rw [← hck, ← hcch, ← hcep, ← hcnd] at HCM
          rw [← hck] at e0
          rw [← hcch] at e1
          rw [← hcep] at e2 e4
          rw [← hcnd] at e3
          clear hck hcch hcep hcnd
          have HDO := Lib.hid (Do_any _ l _ ck cch cep cnd AnyB wr HCF.out (by omega) (chk_is ck cch cep cnd) e4)
          have HST := Lib.hid (stp_of hA (chk_is ck cch cep cnd) (fun j hj => by obtain ⟨_, _, _, _, _, _, _, _, _, _, _, _, _, h, _⟩ := HCF.out.at_ hj; exact h))
          obtain ⟨l', hl'⟩ : ∃ x, x = doC l (chk ck cch cep cnd) ck cch cep cnd := ⟨_, rfl⟩
          obtain ⟨ok, hok⟩ : ∃ x, x = decide (canC l (chk ck cch cep cnd) ck cch cep cnd = 0) := ⟨_, rfl⟩
          rw [← hl', ← hok] at HDO HST
          unfold DoE at HDO
          clear hl' hok hA
          go_wp2_with fail
          refine HDO.out.mono ?_
          rintro e w4 ⟨y, rfl, hy, hk4⟩
          have hyA := hy.mono (G := AnyB) (fun _ _ _ => trivial)
          have HY := Lib.hid hyA
          obtain ⟨ya, yc, rfl, _⟩ := id hyA
          have HL4 := Lib.hid (HCF.out.kept hk4 (fun _ _ _ h => h))
          have HK4 := Lib.hid (HKR.out.trans hk4 (fun _ _ h => h))
          have hll := HST.out.len
          rw [hll] at HY ⊢
          clear hy hyA hk4 e0 e1 e2 e3 hll
          have HLE := Lib.hid HST.out.len
          go_wp2_with fail
          refine (RAll_any _ l' AnyB w4 HY.out (by have := HST.out.len; omega)).mono ?_
          rintro e w5 ⟨rfl, hk5⟩
          rw [show allB l' = true from decide_eq_true HST.out.all]
          have HY5 := Lib.hid (HY.out.kept hk5 (fun _ _ _ h => h))
          have HL5 := Lib.hid (HL4.out.kept hk5 (fun _ _ _ h => h))
          have HK5 := Lib.hid (HK4.out.trans hk5 (fun _ _ h => h))
          clear hk5
          go_wp2_with fail
          go_loopw [14] (fun i wr => ∃ c : Nat, i = .int .i64 c ∧ c ≤ l.length ∧ Kept NoB w5 wr) (fun i _ => l.length - (RowKit.intOf i).toNat)
          case atStart => exact ⟨0, rfl, Nat.zero_le _, Kept.refl _ _⟩
          case round =>
            obtain ⟨c, rfl, hc, hkc⟩ := hrel
            have HKC := Lib.hid hkc
            have HKR := Lib.hid (HK5.out.trans hkc (fun _ _ h => h))
            have HLR := Lib.hid (HL5.out.kept hkc (fun _ _ _ h => h))
            have HYR := Lib.hid (HY5.out.kept hkc (fun _ _ _ h => h))
            clear hkc
            by_cases hcl : c < l.length
            · have hc1 : (c : Int) < (l.length : Int) := by omega
              obtain ⟨b1, o1, rfl, _, _, u1, c0, c1, c2, c3, c4, hns1, hbd1⟩ := HLR.out.at_ hcl
              obtain ⟨b2, o2, rfl, _, _, u2, d0, d1, d2, d3, d4, hns2, hbd2⟩ := HYR.out.at_ (j := c) (by rw [HST.out.len]; exact hcl)
              obtain ⟨xa, xc, rfl, _⟩ := id hns1
              obtain ⟨ya, yc, rfl, _⟩ := id hns2
              have hcv1 := cf_eta _ _ _ _ hns1 hbd1
              have hcv2 := cf_eta _ _ _ _ hns2 hbd2
              have HS1 := Lib.hid (fun w' (hk : Kept NoB wr w') => RSettled_any _ _ AnyB w' (hcv1.kept hk (fun _ _ _ h => h)))
              have HS2 := Lib.hid (fun w' (hk : Kept NoB wr w') => RSettled_any _ _ AnyB w' (hcv2.kept hk (fun _ _ _ h => h)))
              have HME := Lib.hid (fun v u F G w' (hv : NSl w' F v (nthC l c).set) (hu : NSl w' G u (nthC l' c).set) => HST.out.meet c hcl ▸ meet_any v u _ _ F G w' hv hu)
              have HOR := Lib.hid (fun w' (hk : Kept NoB wr w') => ordered_any _ _ _ _ AnyB AnyB w' (hns1.kept hk (fun _ _ _ h => h)) (hns2.kept hk (fun _ _ _ h => h)) (HST.out.ord c hcl))
              have HSA := Lib.hid (fun w' (hk : Kept NoB wr w') => RSame_any _ _ _ _ AnyB AnyB w' (hcv2.kept hk (fun _ _ _ h => h)) (hcv1.kept hk (fun _ _ _ h => h)))
              have HMV := Lib.hid (HST.out.moved c hcl)
              have HSY := Lib.hid (HST.out.stays c hcl)
              have hepb := hbd1.2.1
              have hepl := hbd1.1
              clear hcv1 hcv2 hns1 hns2 hbd1 hbd2
              obtain ⟨D, hD⟩ : ∃ x, x = nthC l c := ⟨_, rfl⟩
              obtain ⟨E, hE⟩ : ∃ x, x = nthC l' c := ⟨_, rfl⟩
              rw [← hD] at HS1 HME HOR HSA HMV HSY hepb hepl c0 c1 c2 c3 c4
              rw [← hE] at HS2 HME HOR HSA HMV HSY d0 d1 d2 d3 d4
              clear hD hE
              obtain ⟨cb2, co2, hcc, e0, e1, _, _, _⟩ := HCM.out wr HKR.out
              simp only [Option.some.injEq, Addr.mk.injEq, and_true] at hcc
              obtain ⟨rfl, rfl⟩ := hcc
              by_cases hmv : ok = true ∧ ck ≠ 0 ∧ cch = (c : Int)
              · obtain ⟨rfl, hck, rfl⟩ := hmv
                obtain ⟨hep2, hept⟩ := HMV.out rfl hck rfl
                rw [hep2] at d1 HS2 HSA
                have zk : (ck != 0) = true := by simpa using hck
                unfold topE at hept hepb
                clear hep2 hck HMV HSY
                obtain ⟨S1, hS1⟩ : ∃ x, x = D.set := ⟨_, rfl⟩
                obtain ⟨S2, hS2⟩ : ∃ x, x = E.set := ⟨_, rfl⟩
                rw [← hS1] at HS1 HME
                rw [← hS2] at HS2 HME
                obtain ⟨ch1, t1⟩ : ∃ x, x = D.ch := ⟨_, rfl⟩
                obtain ⟨ep1, t2⟩ : ∃ x, x = D.ep := ⟨_, rfl⟩
                obtain ⟨n1, t3⟩ : ∃ x, x = D.ns.length := ⟨_, rfl⟩
                obtain ⟨fr1, t4⟩ : ∃ x, x = D.fr := ⟨_, rfl⟩
                obtain ⟨jn1, t5⟩ : ∃ x, x = D.jn := ⟨_, rfl⟩
                obtain ⟨ch2, t6⟩ : ∃ x, x = E.ch := ⟨_, rfl⟩
                obtain ⟨n2, t7⟩ : ∃ x, x = E.ns.length := ⟨_, rfl⟩
                obtain ⟨fr2, t8⟩ : ∃ x, x = E.fr := ⟨_, rfl⟩
                obtain ⟨jn2, t9⟩ : ∃ x, x = E.jn := ⟨_, rfl⟩
                rw [← t1, ← t2, ← t3, ← t4, ← t5] at HS1
                rw [← t6, ← t2, ← t7, ← t8, ← t9] at HS2
                rw [← t3, ← t7] at HOR
                rw [← t1] at c0
                rw [← t2] at c1 d1 hept hepb hepl
                rw [← t3] at c2
                rw [← t4] at c3
                rw [← t5] at c4
                rw [← t6] at d0
                rw [← t7] at d2
                rw [← t8] at d3
                rw [← t9] at d4
                clear t1 t2 t3 t4 t5 t6 t7 t8 t9 hS1 hS2 HSA
                have hwr : IntKind.u64.wrap (ep1 + 1) = ep1 + 1 := IntWalk.u64_in _ (by omega)
                have z1 : ((ep1 + 1) != (ep1 + 1)) = false := by simp
                have HTEN : Hid (∀ w', Kept NoB wr w' → w'.cell? ⟨b1, o1 + c * 5, none⟩ = some (.int .i64 ch1) ∧ w'.cell? ⟨b1, o1 + c * 5 + 1, none⟩ = some (.int .u64 ep1) ∧ w'.cell? ⟨b1, o1 + c * 5 + 2, none⟩ = some (.slice xa n1 xc) ∧ w'.cell? ⟨b1, o1 + c * 5 + 3, none⟩ = some (.bool fr1) ∧ w'.cell? ⟨b1, o1 + c * 5 + 4, none⟩ = some (.int .i64 jn1) ∧ w'.cell? ⟨b2, o2 + c * 5, none⟩ = some (.int .i64 ch2) ∧ w'.cell? ⟨b2, o2 + c * 5 + 1, none⟩ = some (.int .u64 (ep1 + 1)) ∧ w'.cell? ⟨b2, o2 + c * 5 + 2, none⟩ = some (.slice ya n2 yc) ∧ w'.cell? ⟨b2, o2 + c * 5 + 3, none⟩ = some (.bool fr2) ∧ w'.cell? ⟨b2, o2 + c * 5 + 4, none⟩ = some (.int .i64 jn2)) := Lib.hid (fun w' hk => ⟨hk.cell (p := ⟨b1, o1 + c * 5, none⟩) (fun h => h) c0, hk.cell (p := ⟨b1, o1 + c * 5 + 1, none⟩) (fun h => h) c1, hk.cell (p := ⟨b1, o1 + c * 5 + 2, none⟩) (fun h => h) c2, hk.cell (p := ⟨b1, o1 + c * 5 + 3, none⟩) (fun h => h) c3, hk.cell (p := ⟨b1, o1 + c * 5 + 4, none⟩) (fun h => h) c4, hk.cell (p := ⟨b2, o2 + c * 5, none⟩) (fun h => h) d0, hk.cell (p := ⟨b2, o2 + c * 5 + 1, none⟩) (fun h => h) d1, hk.cell (p := ⟨b2, o2 + c * 5 + 2, none⟩) (fun h => h) d2, hk.cell (p := ⟨b2, o2 + c * 5 + 3, none⟩) (fun h => h) d3, hk.cell (p := ⟨b2, o2 + c * 5 + 4, none⟩) (fun h => h) d4⟩)
                go_wp2_with fail
                clear c0 c1 c2 c3 c4 d0 d1 d2 d3 d4
                have HKe := Lib.hid (Kept.refl NoB wr).drew
                have HT := Lib.hid (HTEN.out _ HKe.out)
                refine wp_region_noPanic ?_
                refine wp_region_held_drew (S := (fun w' => w'.cell? ⟨b1, o1 + c * 5, none⟩ = some (.int .i64 ch1) ∧ w'.cell? ⟨b1, o1 + c * 5 + 1, none⟩ = some (.int .u64 ep1) ∧ w'.cell? ⟨b1, o1 + c * 5 + 2, none⟩ = some (.slice xa n1 xc) ∧ w'.cell? ⟨b1, o1 + c * 5 + 3, none⟩ = some (.bool fr1) ∧ w'.cell? ⟨b1, o1 + c * 5 + 4, none⟩ = some (.int .i64 jn1) ∧ w'.cell? ⟨b2, o2 + c * 5, none⟩ = some (.int .i64 ch2) ∧ w'.cell? ⟨b2, o2 + c * 5 + 1, none⟩ = some (.int .u64 (ep1 + 1)) ∧ w'.cell? ⟨b2, o2 + c * 5 + 2, none⟩ = some (.slice ya n2 yc) ∧ w'.cell? ⟨b2, o2 + c * 5 + 3, none⟩ = some (.bool fr2) ∧ w'.cell? ⟨b2, o2 + c * 5 + 4, none⟩ = some (.int .i64 jn2))) (by kernel_rfl) ?_ (fun hHeld => ?_)
                · (try dsimp only); with_reducible exact HT.out
                refine wpAnyH_take (i := 0) (oi := { dst := some 103, op := Op.move (Operand.tmp 12), type := 22, pos := "law.go:90", after := #[], guard := none }) (v := ?_) rfl (by kernel_rfl) (by kernel_rfl) (by kernel_rfl) (fun _ _ _ h => h) (Or.inl ⟨by rfl, ?_⟩) (by assumption) ?_
                rotate_left
                · (intro w hSw; (try dsimp only at hSw); go_simp; try with_reducible rfl)
                try simp only [Act.put, List.setIfInBounds_toArray, List.set_cons_zero, List.set_cons_succ]
                refine wpAnyH_take (i := 1) (oi := { dst := some 104, op := Op.move (Operand.tmp 14), type := 3, pos := "law.go:90", after := #[], guard := none }) (v := ?_) rfl (by kernel_rfl) (by kernel_rfl) (by kernel_rfl) (fun _ _ _ h => h) (Or.inl ⟨by rfl, ?_⟩) (by assumption) ?_
                rotate_left
                · (intro w hSw; (try dsimp only at hSw); go_simp; try with_reducible rfl)
                try simp only [Act.put, List.setIfInBounds_toArray, List.set_cons_zero, List.set_cons_succ]
                refine wpAnyH_take (i := 2) (oi := { dst := some 105, op := Op.indexAddr 22 (Operand.tmp 103) (Operand.tmp 104), type := 0, pos := "law.go:90", after := #[{ on := 0, ground := Ground.data }, { on := 1, ground := Ground.data }], guard := none }) (v := ?_) rfl (by kernel_rfl) (by kernel_rfl) (by kernel_rfl) (fun _ _ _ h => h) (Or.inl ⟨by rfl, ?_⟩) (by assumption) ?_
                rotate_left
                · (intro w hSw; (try dsimp only at hSw); go_simp; try with_reducible rfl)
                try simp only [Act.put, List.setIfInBounds_toArray, List.set_cons_zero, List.set_cons_succ]
                refine wpAnyH_take (i := 3) (oi := { dst := some 106, op := Op.fieldAddr 26 (Operand.tmp 105) 1, type := 0, pos := "law.go:90", after := #[{ on := 2, ground := Ground.data }], guard := none }) (v := ?_) rfl (by kernel_rfl) (by kernel_rfl) (by kernel_rfl) (fun _ _ _ h => h) (Or.inl ⟨by rfl, ?_⟩) (by assumption) ?_
                rotate_left
                · (intro w hSw; (try dsimp only at hSw); go_simp; try with_reducible rfl)
                try simp only [Act.put, List.setIfInBounds_toArray, List.set_cons_zero, List.set_cons_succ]
                refine wpAnyH_take (i := 4) (oi := { dst := some 107, op := Op.load 23 (Operand.tmp 106), type := 23, pos := "law.go:90", after := #[{ on := 3, ground := Ground.data }], guard := none }) (v := ?_) rfl (by kernel_rfl) (by kernel_rfl) (by kernel_rfl) (fun _ _ _ h => h) (Or.inl ⟨by rfl, ?_⟩) (by assumption) ?_
                rotate_left
                · (intro w hSw; (try dsimp only at hSw); go_simp; try with_reducible rfl)
                try simp only [Act.put, List.setIfInBounds_toArray, List.set_cons_zero, List.set_cons_succ]
                refine wpAnyH_take (i := 5) (oi := { dst := some 108, op := Op.move (Operand.tmp 16), type := 23, pos := "law.go:90", after := #[], guard := none }) (v := ?_) rfl (by kernel_rfl) (by kernel_rfl) (by kernel_rfl) (fun _ _ _ h => h) (Or.inl ⟨by rfl, ?_⟩) (by assumption) ?_
                rotate_left
                · (intro w hSw; (try dsimp only at hSw); go_simp; try with_reducible rfl)
                try simp only [Act.put, List.setIfInBounds_toArray, List.set_cons_zero, List.set_cons_succ]
                refine wpAnyH_take (i := 6) (oi := { dst := some 109, op := Op.binOp BinOp.neq 23 (Operand.tmp 107) (Operand.tmp 108) 23, type := 4, pos := "law.go:90", after := #[{ on := 4, ground := Ground.data }, { on := 5, ground := Ground.data }], guard := none }) (v := ?_) rfl (by kernel_rfl) (by kernel_rfl) (by kernel_rfl) (fun _ _ _ h => h) (Or.inl ⟨by rfl, ?_⟩) (by assumption) ?_
                rotate_left
                · (intro w hSw; (try dsimp only at hSw); go_simp; try with_reducible rfl)
                try simp only [Act.put, List.setIfInBounds_toArray, List.set_cons_zero, List.set_cons_succ]
                refine wpAnyH_take (i := 7) (oi := { dst := some 110, op := Op.move (Operand.tmp 109), type := 4, pos := "law.go:90", after := #[{ on := 6, ground := Ground.data }], guard := none }) (v := ?_) rfl (by kernel_rfl) (by kernel_rfl) (by kernel_rfl) (fun _ _ _ h => h) (Or.inl ⟨by rfl, ?_⟩) (by assumption) ?_
                rotate_left
                · (intro w hSw; (try dsimp only at hSw); go_simp; try with_reducible rfl)
                try simp only [Act.put, List.setIfInBounds_toArray, List.set_cons_zero, List.set_cons_succ]
                refine wpAnyH_take (i := 8) (oi := { dst := some 111, op := Op.move (Operand.tmp 7), type := 22, pos := "law.go:90", after := #[{ on := 7, ground := Ground.guard }], guard := some (7, false) }) (v := ?_) rfl (by kernel_rfl) (by kernel_rfl) (by kernel_rfl) (fun _ _ _ h => h) (Or.inl ⟨by rfl, ?_⟩) (by assumption) ?_
                rotate_left
                · (intro w hSw; (try dsimp only at hSw); go_simp; try with_reducible rfl)
                try simp only [Act.put, List.setIfInBounds_toArray, List.set_cons_zero, List.set_cons_succ]
                refine wpAnyH_take (i := 9) (oi := { dst := some 112, op := Op.move (Operand.tmp 14), type := 3, pos := "law.go:90", after := #[{ on := 7, ground := Ground.guard }], guard := some (7, false) }) (v := ?_) rfl (by kernel_rfl) (by kernel_rfl) (by kernel_rfl) (fun _ _ _ h => h) (Or.inl ⟨by rfl, ?_⟩) (by assumption) ?_
                rotate_left
                · (intro w hSw; (try dsimp only at hSw); go_simp; try with_reducible rfl)
                try simp only [Act.put, List.setIfInBounds_toArray, List.set_cons_zero, List.set_cons_succ]
                refine wpAnyH_take (i := 10) (oi := { dst := some 113, op := Op.indexAddr 22 (Operand.tmp 111) (Operand.tmp 112), type := 0, pos := "law.go:90", after := #[{ on := 8, ground := Ground.data }, { on := 9, ground := Ground.data }, { on := 7, ground := Ground.guard }], guard := some (7, false) }) (v := ?_) rfl (by kernel_rfl) (by kernel_rfl) (by kernel_rfl) (fun _ _ _ h => h) (Or.inl ⟨by rfl, ?_⟩) (by assumption) ?_
                rotate_left
                · (intro w hSw; (try dsimp only at hSw); go_simp; try with_reducible rfl)
                try simp only [Act.put, List.setIfInBounds_toArray, List.set_cons_zero, List.set_cons_succ]
                refine wpAnyH_take (i := 11) (oi := { dst := some 114, op := Op.load 26 (Operand.tmp 113), type := 26, pos := "law.go:90", after := #[{ on := 10, ground := Ground.data }, { on := 7, ground := Ground.guard }], guard := some (7, false) }) (v := ?_) rfl (by kernel_rfl) (by kernel_rfl) (by kernel_rfl) (fun _ _ _ h => h) (Or.inl ⟨by rfl, ?_⟩) (by assumption) ?_
                rotate_left
                · (intro w hSw; (try dsimp only at hSw); go_simp; try with_reducible rfl)
                try simp only [Act.put, List.setIfInBounds_toArray, List.set_cons_zero, List.set_cons_succ]
                refine wpAnyH_take (i := 13) (oi := { dst := some 116, op := Op.move (Operand.tmp 12), type := 22, pos := "law.go:90", after := #[{ on := 7, ground := Ground.guard }], guard := some (7, false) }) (v := ?_) rfl (by kernel_rfl) (by kernel_rfl) (by kernel_rfl) (fun _ _ _ h => h) (Or.inl ⟨by rfl, ?_⟩) (by assumption) ?_
                rotate_left
                · (intro w hSw; (try dsimp only at hSw); go_simp; try with_reducible rfl)
                try simp only [Act.put, List.setIfInBounds_toArray, List.set_cons_zero, List.set_cons_succ]
                refine wpAnyH_take (i := 14) (oi := { dst := some 117, op := Op.move (Operand.tmp 14), type := 3, pos := "law.go:90", after := #[{ on := 7, ground := Ground.guard }], guard := some (7, false) }) (v := ?_) rfl (by kernel_rfl) (by kernel_rfl) (by kernel_rfl) (fun _ _ _ h => h) (Or.inl ⟨by rfl, ?_⟩) (by assumption) ?_
                rotate_left
                · (intro w hSw; (try dsimp only at hSw); go_simp; try with_reducible rfl)
                try simp only [Act.put, List.setIfInBounds_toArray, List.set_cons_zero, List.set_cons_succ]
                refine wpAnyH_take (i := 15) (oi := { dst := some 118, op := Op.indexAddr 22 (Operand.tmp 116) (Operand.tmp 117), type := 0, pos := "law.go:90", after := #[{ on := 13, ground := Ground.data }, { on := 14, ground := Ground.data }, { on := 7, ground := Ground.guard }], guard := some (7, false) }) (v := ?_) rfl (by kernel_rfl) (by kernel_rfl) (by kernel_rfl) (fun _ _ _ h => h) (Or.inl ⟨by rfl, ?_⟩) (by assumption) ?_
                rotate_left
                · (intro w hSw; (try dsimp only at hSw); go_simp; try with_reducible rfl)
                try simp only [Act.put, List.setIfInBounds_toArray, List.set_cons_zero, List.set_cons_succ]
                refine wpAnyH_take (i := 16) (oi := { dst := some 119, op := Op.load 26 (Operand.tmp 118), type := 26, pos := "law.go:90", after := #[{ on := 15, ground := Ground.data }, { on := 7, ground := Ground.guard }], guard := some (7, false) }) (v := ?_) rfl (by kernel_rfl) (by kernel_rfl) (by kernel_rfl) (fun _ _ _ h => h) (Or.inl ⟨by rfl, ?_⟩) (by assumption) ?_
                rotate_left
                · (intro w hSw; (try dsimp only at hSw); go_simp; try with_reducible rfl)
                try simp only [Act.put, List.setIfInBounds_toArray, List.set_cons_zero, List.set_cons_succ]
                refine wpAnyH_ready (rs := [12]) (by kernel_rfl) (by simp) ?_
                refine AllReadyH.cons (o := { dst := some 115, op := Op.call { callee := Callee.value (Operand.func 15), args := #[Operand.tmp 114], argTypes := #[26] }, type := 24, pos := "law.go:90", after := #[{ on := 11, ground := Ground.data }, { on := 7, ground := Ground.chain }, { on := 7, ground := Ground.guard }], guard := some (7, false) }) rfl (fun K hK => ?_) AllReadyH.nil
                go_simp
                (with_reducible refine (HS1.out _ HKe.out).mono ?_)
                rintro e w1 ⟨s1, rfl, hn1, hk1⟩
                have HN1 := Lib.hid hn1
                clear hn1
                replace HKe := Lib.hid (HKe.out.trans hk1 (fun _ _ h => h)); replace HT := Lib.hid (HTEN.out _ HKe.out); clear hk1
                first | (with_reducible refine hK.out _ _ ?_ (fun hHeld => ?_)) | (go_wp2_with fail; with_reducible refine hK.out _ _ ?_ (fun hHeld => ?_))
                · (try dsimp only); with_reducible exact HT.out
                clear hK K
                try simp only [Act.put, List.setIfInBounds_toArray, List.set_cons_zero, List.set_cons_succ]
                refine wpAnyH_ready (rs := [17]) (by kernel_rfl) (by simp) ?_
                refine AllReadyH.cons (o := { dst := some 120, op := Op.call { callee := Callee.value (Operand.func 15), args := #[Operand.tmp 119], argTypes := #[26] }, type := 24, pos := "law.go:90", after := #[{ on := 16, ground := Ground.data }, { on := 12, ground := Ground.chain }, { on := 7, ground := Ground.guard }], guard := some (7, false) }) rfl (fun K hK => ?_) AllReadyH.nil
                go_simp
                (with_reducible refine (HS2.out _ HKe.out).mono ?_)
                rintro e w1 ⟨s2, rfl, hn2, hk1⟩
                have HN2 := Lib.hid hn2
                replace HN1 := Lib.hid (HN1.out.kept hk1 (fun _ _ _ h => h))
                clear hn2
                replace HKe := Lib.hid (HKe.out.trans hk1 (fun _ _ h => h)); replace HT := Lib.hid (HTEN.out _ HKe.out); clear hk1
                first | (with_reducible refine hK.out _ _ ?_ (fun hHeld => ?_)) | (go_wp2_with fail; with_reducible refine hK.out _ _ ?_ (fun hHeld => ?_))
                · (try dsimp only); with_reducible exact HT.out
                clear hK K
                try simp only [Act.put, List.setIfInBounds_toArray, List.set_cons_zero, List.set_cons_succ]
                refine wpAnyH_ready (rs := [18]) (by kernel_rfl) (by simp) ?_
                refine AllReadyH.cons (o := { dst := some 121, op := Op.call { callee := Callee.value (Operand.func 30), args := #[Operand.tmp 115, Operand.tmp 120], argTypes := #[24, 24] }, type := 4, pos := "law.go:90", after := #[{ on := 12, ground := Ground.data }, { on := 17, ground := Ground.data }, { on := 17, ground := Ground.chain }, { on := 7, ground := Ground.guard }], guard := some (7, false) }) rfl (fun K hK => ?_) AllReadyH.nil
                go_simp
                (with_reducible refine (HME.out _ _ _ _ _ HN1.out HN2.out).mono ?_)
                rintro e w1 ⟨rfl, rfl⟩
                first | (with_reducible refine hK.out _ _ ?_ (fun hHeld => ?_)) | (go_wp2_with fail; with_reducible refine hK.out _ _ ?_ (fun hHeld => ?_))
                · (try dsimp only); with_reducible exact HT.out
                clear hK K
                try simp only [Act.put, List.setIfInBounds_toArray, List.set_cons_zero, List.set_cons_succ]
                refine wpAnyH_take (i := 19) (oi := { dst := some 122, op := Op.unOp UnOp.not 4 (Operand.tmp 121), type := 4, pos := "law.go:90", after := #[{ on := 18, ground := Ground.data }, { on := 7, ground := Ground.guard }], guard := some (7, false) }) (v := ?_) rfl (by kernel_rfl) (by kernel_rfl) (by kernel_rfl) (fun _ _ _ h => h) (Or.inl ⟨by rfl, ?_⟩) (by assumption) ?_
                rotate_left
                · (intro w hSw; (try dsimp only at hSw); go_simp; try with_reducible rfl)
                try simp only [Act.put, List.setIfInBounds_toArray, List.set_cons_zero, List.set_cons_succ]
                refine wpAnyH_take (i := 20) (oi := { dst := some 123, op := Op.pick (Operand.tmp 110) (Operand.const (Value.bool true)) (Operand.tmp 122), type := 4, pos := "law.go:90", after := #[{ on := 7, ground := Ground.data }, { on := 19, ground := Ground.data }], guard := none }) (v := ?_) rfl (by kernel_rfl) (by kernel_rfl) (by kernel_rfl) (fun _ _ _ h => h) (Or.inl ⟨by rfl, ?_⟩) (by assumption) ?_
                rotate_left
                · (intro w hSw; (try dsimp only at hSw); go_simp; try with_reducible rfl)
                try simp only [Act.put, List.setIfInBounds_toArray, List.set_cons_zero, List.set_cons_succ]
                refine wpAnyH_take (i := 21) (oi := { dst := some 124, op := Op.move (Operand.tmp 123), type := 4, pos := "law.go:90", after := #[{ on := 20, ground := Ground.data }, { on := 18, ground := Ground.chain }], guard := none }) (v := ?_) rfl (by kernel_rfl) (by kernel_rfl) (by kernel_rfl) (fun _ _ _ h => h) (Or.inl ⟨by rfl, ?_⟩) (by assumption) ?_
                rotate_left
                · (intro w hSw; (try dsimp only at hSw); go_simp; try with_reducible rfl)
                try simp only [Act.put, List.setIfInBounds_toArray, List.set_cons_zero, List.set_cons_succ]
                refine wpAnyH_take (i := 22) (oi := { dst := some 125, op := Op.move (Operand.tmp 7), type := 22, pos := "law.go:90", after := #[{ on := 21, ground := Ground.guard }], guard := some (21, false) }) (v := ?_) rfl (by kernel_rfl) (by kernel_rfl) (by kernel_rfl) (fun _ _ _ h => h) (Or.inl ⟨by rfl, ?_⟩) (by assumption) ?_
                rotate_left
                · (intro w hSw; (try dsimp only at hSw); go_simp; try with_reducible rfl)
                try simp only [Act.put, List.setIfInBounds_toArray, List.set_cons_zero, List.set_cons_succ]
                refine wpAnyH_take (i := 23) (oi := { dst := some 126, op := Op.move (Operand.tmp 14), type := 3, pos := "law.go:90", after := #[{ on := 21, ground := Ground.guard }], guard := some (21, false) }) (v := ?_) rfl (by kernel_rfl) (by kernel_rfl) (by kernel_rfl) (fun _ _ _ h => h) (Or.inl ⟨by rfl, ?_⟩) (by assumption) ?_
                rotate_left
                · (intro w hSw; (try dsimp only at hSw); go_simp; try with_reducible rfl)
                try simp only [Act.put, List.setIfInBounds_toArray, List.set_cons_zero, List.set_cons_succ]
                refine wpAnyH_take (i := 24) (oi := { dst := some 127, op := Op.indexAddr 22 (Operand.tmp 125) (Operand.tmp 126), type := 0, pos := "law.go:90", after := #[{ on := 22, ground := Ground.data }, { on := 23, ground := Ground.data }, { on := 21, ground := Ground.guard }], guard := some (21, false) }) (v := ?_) rfl (by kernel_rfl) (by kernel_rfl) (by kernel_rfl) (fun _ _ _ h => h) (Or.inl ⟨by rfl, ?_⟩) (by assumption) ?_
                rotate_left
                · (intro w hSw; (try dsimp only at hSw); go_simp; try with_reducible rfl)
                try simp only [Act.put, List.setIfInBounds_toArray, List.set_cons_zero, List.set_cons_succ]
                refine wpAnyH_take (i := 25) (oi := { dst := some 128, op := Op.fieldAddr 26 (Operand.tmp 127) 2, type := 0, pos := "law.go:90", after := #[{ on := 24, ground := Ground.data }, { on := 21, ground := Ground.guard }], guard := some (21, false) }) (v := ?_) rfl (by kernel_rfl) (by kernel_rfl) (by kernel_rfl) (fun _ _ _ h => h) (Or.inl ⟨by rfl, ?_⟩) (by assumption) ?_
                rotate_left
                · (intro w hSw; (try dsimp only at hSw); go_simp; try with_reducible rfl)
                try simp only [Act.put, List.setIfInBounds_toArray, List.set_cons_zero, List.set_cons_succ]
                refine wpAnyH_take (i := 26) (oi := { dst := some 129, op := Op.load 24 (Operand.tmp 128), type := 24, pos := "law.go:90", after := #[{ on := 25, ground := Ground.data }, { on := 21, ground := Ground.guard }], guard := some (21, false) }) (v := ?_) rfl (by kernel_rfl) (by kernel_rfl) (by kernel_rfl) (fun _ _ _ h => h) (Or.inl ⟨by rfl, ?_⟩) (by assumption) ?_
                rotate_left
                · (intro w hSw; (try dsimp only at hSw); go_simp; try with_reducible rfl)
                try simp only [Act.put, List.setIfInBounds_toArray, List.set_cons_zero, List.set_cons_succ]
                refine wpAnyH_take (i := 27) (oi := { dst := some 130, op := Op.move (Operand.tmp 12), type := 22, pos := "law.go:90", after := #[{ on := 21, ground := Ground.guard }], guard := some (21, false) }) (v := ?_) rfl (by kernel_rfl) (by kernel_rfl) (by kernel_rfl) (fun _ _ _ h => h) (Or.inl ⟨by rfl, ?_⟩) (by assumption) ?_
                rotate_left
                · (intro w hSw; (try dsimp only at hSw); go_simp; try with_reducible rfl)
                try simp only [Act.put, List.setIfInBounds_toArray, List.set_cons_zero, List.set_cons_succ]
                refine wpAnyH_take (i := 28) (oi := { dst := some 131, op := Op.move (Operand.tmp 14), type := 3, pos := "law.go:90", after := #[{ on := 21, ground := Ground.guard }], guard := some (21, false) }) (v := ?_) rfl (by kernel_rfl) (by kernel_rfl) (by kernel_rfl) (fun _ _ _ h => h) (Or.inl ⟨by rfl, ?_⟩) (by assumption) ?_
                rotate_left
                · (intro w hSw; (try dsimp only at hSw); go_simp; try with_reducible rfl)
                try simp only [Act.put, List.setIfInBounds_toArray, List.set_cons_zero, List.set_cons_succ]
                refine wpAnyH_take (i := 29) (oi := { dst := some 132, op := Op.indexAddr 22 (Operand.tmp 130) (Operand.tmp 131), type := 0, pos := "law.go:90", after := #[{ on := 27, ground := Ground.data }, { on := 28, ground := Ground.data }, { on := 21, ground := Ground.guard }], guard := some (21, false) }) (v := ?_) rfl (by kernel_rfl) (by kernel_rfl) (by kernel_rfl) (fun _ _ _ h => h) (Or.inl ⟨by rfl, ?_⟩) (by assumption) ?_
                rotate_left
                · (intro w hSw; (try dsimp only at hSw); go_simp; try with_reducible rfl)
                try simp only [Act.put, List.setIfInBounds_toArray, List.set_cons_zero, List.set_cons_succ]
                refine wpAnyH_take (i := 30) (oi := { dst := some 133, op := Op.fieldAddr 26 (Operand.tmp 132) 2, type := 0, pos := "law.go:90", after := #[{ on := 29, ground := Ground.data }, { on := 21, ground := Ground.guard }], guard := some (21, false) }) (v := ?_) rfl (by kernel_rfl) (by kernel_rfl) (by kernel_rfl) (fun _ _ _ h => h) (Or.inl ⟨by rfl, ?_⟩) (by assumption) ?_
                rotate_left
                · (intro w hSw; (try dsimp only at hSw); go_simp; try with_reducible rfl)
                try simp only [Act.put, List.setIfInBounds_toArray, List.set_cons_zero, List.set_cons_succ]
                refine wpAnyH_take (i := 31) (oi := { dst := some 134, op := Op.load 24 (Operand.tmp 133), type := 24, pos := "law.go:90", after := #[{ on := 30, ground := Ground.data }, { on := 21, ground := Ground.guard }], guard := some (21, false) }) (v := ?_) rfl (by kernel_rfl) (by kernel_rfl) (by kernel_rfl) (fun _ _ _ h => h) (Or.inl ⟨by rfl, ?_⟩) (by assumption) ?_
                rotate_left
                · (intro w hSw; (try dsimp only at hSw); go_simp; try with_reducible rfl)
                try simp only [Act.put, List.setIfInBounds_toArray, List.set_cons_zero, List.set_cons_succ]
                refine wpAnyH_ready (rs := [32]) (by kernel_rfl) (by simp) ?_
                refine AllReadyH.cons (o := { dst := some 135, op := Op.call { callee := Callee.value (Operand.func 31), args := #[Operand.tmp 129, Operand.tmp 134], argTypes := #[24, 24] }, type := 4, pos := "law.go:90", after := #[{ on := 26, ground := Ground.data }, { on := 31, ground := Ground.data }, { on := 21, ground := Ground.chain }, { on := 21, ground := Ground.guard }], guard := some (21, false) }) rfl (fun K hK => ?_) AllReadyH.nil
                go_simp
                (with_reducible refine (HOR.out _ HKe.out).mono ?_)
                rintro e w1 ⟨rfl, hk1⟩
                replace HKe := Lib.hid (HKe.out.trans hk1 (fun _ _ h => h)); replace HT := Lib.hid (HTEN.out _ HKe.out); clear hk1
                first | (with_reducible refine hK.out _ _ ?_ (fun hHeld => ?_)) | (go_wp2_with fail; with_reducible refine hK.out _ _ ?_ (fun hHeld => ?_))
                · (try dsimp only); with_reducible exact HT.out
                clear hK K
                try simp only [Act.put, List.setIfInBounds_toArray, List.set_cons_zero, List.set_cons_succ]
                refine wpAnyH_take (i := 33) (oi := { dst := some 136, op := Op.unOp UnOp.not 4 (Operand.tmp 135), type := 4, pos := "law.go:90", after := #[{ on := 32, ground := Ground.data }, { on := 21, ground := Ground.guard }], guard := some (21, false) }) (v := ?_) rfl (by kernel_rfl) (by kernel_rfl) (by kernel_rfl) (fun _ _ _ h => h) (Or.inl ⟨by rfl, ?_⟩) (by assumption) ?_
                rotate_left
                · (intro w hSw; (try dsimp only at hSw); go_simp; try with_reducible rfl)
                try simp only [Act.put, List.setIfInBounds_toArray, List.set_cons_zero, List.set_cons_succ]
                refine wpAnyH_take (i := 34) (oi := { dst := some 137, op := Op.pick (Operand.tmp 124) (Operand.const (Value.bool true)) (Operand.tmp 136), type := 4, pos := "law.go:90", after := #[{ on := 21, ground := Ground.data }, { on := 33, ground := Ground.data }], guard := none }) (v := ?_) rfl (by kernel_rfl) (by kernel_rfl) (by kernel_rfl) (fun _ _ _ h => h) (Or.inl ⟨by rfl, ?_⟩) (by assumption) ?_
                rotate_left
                · (intro w hSw; (try dsimp only at hSw); go_simp; try with_reducible rfl)
                try simp only [Act.put, List.setIfInBounds_toArray, List.set_cons_zero, List.set_cons_succ]
                refine wpAnyH_take (i := 35) (oi := { dst := some 138, op := Op.move (Operand.tmp 137), type := 4, pos := "law.go:90", after := #[{ on := 34, ground := Ground.data }, { on := 32, ground := Ground.chain }], guard := none }) (v := ?_) rfl (by kernel_rfl) (by kernel_rfl) (by kernel_rfl) (fun _ _ _ h => h) (Or.inl ⟨by rfl, ?_⟩) (by assumption) ?_
                rotate_left
                · (intro w hSw; (try dsimp only at hSw); go_simp; try with_reducible rfl)
                try simp only [Act.put, List.setIfInBounds_toArray, List.set_cons_zero, List.set_cons_succ]
                refine wpAnyH_take (i := 36) (oi := { dst := some 139, op := Op.move (Operand.tmp 15), type := 4, pos := "law.go:90", after := #[{ on := 35, ground := Ground.guard }], guard := some (35, false) }) (v := ?_) rfl (by kernel_rfl) (by kernel_rfl) (by kernel_rfl) (fun _ _ _ h => h) (Or.inl ⟨by rfl, ?_⟩) (by assumption) ?_
                rotate_left
                · (intro w hSw; (try dsimp only at hSw); go_simp; try with_reducible rfl)
                try simp only [Act.put, List.setIfInBounds_toArray, List.set_cons_zero, List.set_cons_succ]
                refine wpAnyH_take (i := 37) (oi := { dst := some 140, op := Op.unOp UnOp.not 4 (Operand.tmp 139), type := 4, pos := "law.go:90", after := #[{ on := 36, ground := Ground.data }, { on := 35, ground := Ground.guard }], guard := some (35, false) }) (v := ?_) rfl (by kernel_rfl) (by kernel_rfl) (by kernel_rfl) (fun _ _ _ h => h) (Or.inl ⟨by rfl, ?_⟩) (by assumption) ?_
                rotate_left
                · (intro w hSw; (try dsimp only at hSw); go_simp; try with_reducible rfl)
                try simp only [Act.put, List.setIfInBounds_toArray, List.set_cons_zero, List.set_cons_succ]
                refine wpAnyH_take (i := 38) (oi := { dst := some 141, op := Op.move (Operand.tmp 140), type := 4, pos := "law.go:90", after := #[{ on := 37, ground := Ground.data }, { on := 35, ground := Ground.chain }, { on := 35, ground := Ground.guard }], guard := some (35, false) }) (v := ?_) rfl (by kernel_rfl) (by kernel_rfl) (by kernel_rfl) (fun _ _ _ h => h) (Or.inl ⟨by rfl, ?_⟩) (by assumption) ?_
                rotate_left
                · (intro w hSw; (try dsimp only at hSw); go_simp; try with_reducible rfl)
                try simp only [Act.put, List.setIfInBounds_toArray, List.set_cons_zero, List.set_cons_succ]
                refine wpAnyH_take (i := 39) (oi := { dst := some 142, op := Op.move (Operand.tmp 12), type := 22, pos := "law.go:90", after := #[{ on := 38, ground := Ground.guard }], guard := some (38, true) }) (v := undef) rfl (by kernel_rfl) (by kernel_rfl) (by kernel_rfl) (fun _ _ _ h => h) (Or.inr ⟨by rfl, rfl⟩) (by assumption) ?_
                try simp only [Act.put, List.setIfInBounds_toArray, List.set_cons_zero, List.set_cons_succ]
                refine wpAnyH_take (i := 40) (oi := { dst := some 143, op := Op.move (Operand.tmp 14), type := 3, pos := "law.go:90", after := #[{ on := 38, ground := Ground.guard }], guard := some (38, true) }) (v := undef) rfl (by kernel_rfl) (by kernel_rfl) (by kernel_rfl) (fun _ _ _ h => h) (Or.inr ⟨by rfl, rfl⟩) (by assumption) ?_
                try simp only [Act.put, List.setIfInBounds_toArray, List.set_cons_zero, List.set_cons_succ]
                refine wpAnyH_take (i := 41) (oi := { dst := some 144, op := Op.indexAddr 22 (Operand.tmp 142) (Operand.tmp 143), type := 0, pos := "law.go:90", after := #[{ on := 39, ground := Ground.data }, { on := 40, ground := Ground.data }, { on := 38, ground := Ground.guard }], guard := some (38, true) }) (v := undef) rfl (by kernel_rfl) (by kernel_rfl) (by kernel_rfl) (fun _ _ _ h => h) (Or.inr ⟨by rfl, rfl⟩) (by assumption) ?_
                try simp only [Act.put, List.setIfInBounds_toArray, List.set_cons_zero, List.set_cons_succ]
                refine wpAnyH_take (i := 42) (oi := { dst := some 145, op := Op.load 26 (Operand.tmp 144), type := 26, pos := "law.go:90", after := #[{ on := 41, ground := Ground.data }, { on := 38, ground := Ground.guard }], guard := some (38, true) }) (v := undef) rfl (by kernel_rfl) (by kernel_rfl) (by kernel_rfl) (fun _ _ _ h => h) (Or.inr ⟨by rfl, rfl⟩) (by assumption) ?_
                try simp only [Act.put, List.setIfInBounds_toArray, List.set_cons_zero, List.set_cons_succ]
                refine wpAnyH_take (i := 43) (oi := { dst := some 146, op := Op.move (Operand.tmp 7), type := 22, pos := "law.go:90", after := #[{ on := 38, ground := Ground.guard }], guard := some (38, true) }) (v := undef) rfl (by kernel_rfl) (by kernel_rfl) (by kernel_rfl) (fun _ _ _ h => h) (Or.inr ⟨by rfl, rfl⟩) (by assumption) ?_
                try simp only [Act.put, List.setIfInBounds_toArray, List.set_cons_zero, List.set_cons_succ]
                refine wpAnyH_take (i := 44) (oi := { dst := some 147, op := Op.move (Operand.tmp 14), type := 3, pos := "law.go:90", after := #[{ on := 38, ground := Ground.guard }], guard := some (38, true) }) (v := undef) rfl (by kernel_rfl) (by kernel_rfl) (by kernel_rfl) (fun _ _ _ h => h) (Or.inr ⟨by rfl, rfl⟩) (by assumption) ?_
                try simp only [Act.put, List.setIfInBounds_toArray, List.set_cons_zero, List.set_cons_succ]
                refine wpAnyH_take (i := 45) (oi := { dst := some 148, op := Op.indexAddr 22 (Operand.tmp 146) (Operand.tmp 147), type := 0, pos := "law.go:90", after := #[{ on := 43, ground := Ground.data }, { on := 44, ground := Ground.data }, { on := 38, ground := Ground.guard }], guard := some (38, true) }) (v := undef) rfl (by kernel_rfl) (by kernel_rfl) (by kernel_rfl) (fun _ _ _ h => h) (Or.inr ⟨by rfl, rfl⟩) (by assumption) ?_
                try simp only [Act.put, List.setIfInBounds_toArray, List.set_cons_zero, List.set_cons_succ]
                refine wpAnyH_take (i := 46) (oi := { dst := some 149, op := Op.load 26 (Operand.tmp 148), type := 26, pos := "law.go:90", after := #[{ on := 45, ground := Ground.data }, { on := 38, ground := Ground.guard }], guard := some (38, true) }) (v := undef) rfl (by kernel_rfl) (by kernel_rfl) (by kernel_rfl) (fun _ _ _ h => h) (Or.inr ⟨by rfl, rfl⟩) (by assumption) ?_
                try simp only [Act.put, List.setIfInBounds_toArray, List.set_cons_zero, List.set_cons_succ]
                refine wpAnyH_take (i := 47) (oi := { dst := some 150, op := Op.call { callee := Callee.value (Operand.func 23), args := #[Operand.tmp 145, Operand.tmp 149], argTypes := #[26, 26] }, type := 4, pos := "law.go:90", after := #[{ on := 42, ground := Ground.data }, { on := 46, ground := Ground.data }, { on := 38, ground := Ground.chain }, { on := 38, ground := Ground.guard }], guard := some (38, true) }) (v := undef) rfl (by kernel_rfl) (by kernel_rfl) (by kernel_rfl) (fun _ _ _ h => h) (Or.inr ⟨by rfl, rfl⟩) (by assumption) ?_
                try simp only [Act.put, List.setIfInBounds_toArray, List.set_cons_zero, List.set_cons_succ]
                refine wpAnyH_take (i := 48) (oi := { dst := some 151, op := Op.unOp UnOp.not 4 (Operand.tmp 150), type := 4, pos := "law.go:90", after := #[{ on := 47, ground := Ground.data }, { on := 38, ground := Ground.guard }], guard := some (38, true) }) (v := undef) rfl (by kernel_rfl) (by kernel_rfl) (by kernel_rfl) (fun _ _ _ h => h) (Or.inr ⟨by rfl, rfl⟩) (by assumption) ?_
                try simp only [Act.put, List.setIfInBounds_toArray, List.set_cons_zero, List.set_cons_succ]
                refine wpAnyH_take (i := 49) (oi := { dst := some 152, op := Op.pick (Operand.tmp 141) (Operand.tmp 151) (Operand.const (Value.bool false)), type := 4, pos := "law.go:90", after := #[{ on := 38, ground := Ground.data }, { on := 48, ground := Ground.data }, { on := 35, ground := Ground.guard }], guard := some (35, false) }) (v := ?_) rfl (by kernel_rfl) (by kernel_rfl) (by kernel_rfl) (fun _ _ _ h => h) (Or.inl ⟨by rfl, ?_⟩) (by assumption) ?_
                rotate_left
                · (intro w hSw; (try dsimp only at hSw); go_simp; try with_reducible rfl)
                try simp only [Act.put, List.setIfInBounds_toArray, List.set_cons_zero, List.set_cons_succ]
                refine wpAnyH_take (i := 50) (oi := { dst := some 153, op := Op.pick (Operand.tmp 138) (Operand.const (Value.bool true)) (Operand.tmp 152), type := 4, pos := "law.go:90", after := #[{ on := 35, ground := Ground.data }, { on := 49, ground := Ground.data }], guard := none }) (v := ?_) rfl (by kernel_rfl) (by kernel_rfl) (by kernel_rfl) (fun _ _ _ h => h) (Or.inl ⟨by rfl, ?_⟩) (by assumption) ?_
                rotate_left
                · (intro w hSw; (try dsimp only at hSw); go_simp; try with_reducible rfl)
                try simp only [Act.put, List.setIfInBounds_toArray, List.set_cons_zero, List.set_cons_succ]
                refine wpAnyH_done (by kernel_rfl) ?_ _
                refine NoPanic.normal ?_
                have HKF := Lib.hid (HKC.out.trans HKe.out (fun _ _ h => h))
                go_wp2
                exact ⟨⟨c + 1, by go_num, by omega, HKF.out⟩, by simp [RowKit.intOf]; omega⟩
              · have hED := HSY.out hmv
                subst hED
                unfold topE at hepb
                clear HMV HSY
                rw [show sameC E E = true from by unfold sameC; simp] at HSA
                obtain ⟨S1, hS1⟩ : ∃ x, x = E.set := ⟨_, rfl⟩
                rw [← hS1] at HS1 HS2 HME
                obtain ⟨ch1, t1⟩ : ∃ x, x = E.ch := ⟨_, rfl⟩
                obtain ⟨ep1, t2⟩ : ∃ x, x = E.ep := ⟨_, rfl⟩
                obtain ⟨n1, t3⟩ : ∃ x, x = E.ns.length := ⟨_, rfl⟩
                obtain ⟨fr1, t4⟩ : ∃ x, x = E.fr := ⟨_, rfl⟩
                obtain ⟨jn1, t5⟩ : ∃ x, x = E.jn := ⟨_, rfl⟩
                rw [← t1, ← t2, ← t3, ← t4, ← t5] at HS1 HS2 HSA
                rw [← t3] at HOR
                rw [← t1] at c0 d0
                rw [← t2] at c1 d1 hepb hepl
                rw [← t3] at c2 d2
                rw [← t4] at c3 d3
                rw [← t5] at c4 d4
                clear t1 t2 t3 t4 t5 hS1
                have z1 : (ep1 != ep1) = false := by simp
                by_cases h1 : ok = true
                · subst h1
                  by_cases h2 : ck = 0
                  · subst h2
                    clear hmv
                    have HTEN : Hid (∀ w', Kept NoB wr w' → w'.cell? ⟨b1, o1 + c * 5, none⟩ = some (.int .i64 ch1) ∧ w'.cell? ⟨b1, o1 + c * 5 + 1, none⟩ = some (.int .u64 ep1) ∧ w'.cell? ⟨b1, o1 + c * 5 + 2, none⟩ = some (.slice xa n1 xc) ∧ w'.cell? ⟨b1, o1 + c * 5 + 3, none⟩ = some (.bool fr1) ∧ w'.cell? ⟨b1, o1 + c * 5 + 4, none⟩ = some (.int .i64 jn1) ∧ w'.cell? ⟨b2, o2 + c * 5, none⟩ = some (.int .i64 ch1) ∧ w'.cell? ⟨b2, o2 + c * 5 + 1, none⟩ = some (.int .u64 ep1) ∧ w'.cell? ⟨b2, o2 + c * 5 + 2, none⟩ = some (.slice ya n1 yc) ∧ w'.cell? ⟨b2, o2 + c * 5 + 3, none⟩ = some (.bool fr1) ∧ w'.cell? ⟨b2, o2 + c * 5 + 4, none⟩ = some (.int .i64 jn1)) := Lib.hid (fun w' hk => ⟨hk.cell (p := ⟨b1, o1 + c * 5, none⟩) (fun h => h) c0, hk.cell (p := ⟨b1, o1 + c * 5 + 1, none⟩) (fun h => h) c1, hk.cell (p := ⟨b1, o1 + c * 5 + 2, none⟩) (fun h => h) c2, hk.cell (p := ⟨b1, o1 + c * 5 + 3, none⟩) (fun h => h) c3, hk.cell (p := ⟨b1, o1 + c * 5 + 4, none⟩) (fun h => h) c4, hk.cell (p := ⟨b2, o2 + c * 5, none⟩) (fun h => h) d0, hk.cell (p := ⟨b2, o2 + c * 5 + 1, none⟩) (fun h => h) d1, hk.cell (p := ⟨b2, o2 + c * 5 + 2, none⟩) (fun h => h) d2, hk.cell (p := ⟨b2, o2 + c * 5 + 3, none⟩) (fun h => h) d3, hk.cell (p := ⟨b2, o2 + c * 5 + 4, none⟩) (fun h => h) d4⟩)
                    go_wp2_with fail
                    clear c0 c1 c2 c3 c4 d0 d1 d2 d3 d4
                    have HKe := Lib.hid (Kept.refl NoB wr).drew
                    have HT := Lib.hid (HTEN.out _ HKe.out)
                    go_region_held3 (fun w' => w'.cell? ⟨b1, o1 + c * 5, none⟩ = some (.int .i64 ch1) ∧ w'.cell? ⟨b1, o1 + c * 5 + 1, none⟩ = some (.int .u64 ep1) ∧ w'.cell? ⟨b1, o1 + c * 5 + 2, none⟩ = some (.slice xa n1 xc) ∧ w'.cell? ⟨b1, o1 + c * 5 + 3, none⟩ = some (.bool fr1) ∧ w'.cell? ⟨b1, o1 + c * 5 + 4, none⟩ = some (.int .i64 jn1) ∧ w'.cell? ⟨b2, o2 + c * 5, none⟩ = some (.int .i64 ch1) ∧ w'.cell? ⟨b2, o2 + c * 5 + 1, none⟩ = some (.int .u64 ep1) ∧ w'.cell? ⟨b2, o2 + c * 5 + 2, none⟩ = some (.slice ya n1 yc) ∧ w'.cell? ⟨b2, o2 + c * 5 + 3, none⟩ = some (.bool fr1) ∧ w'.cell? ⟨b2, o2 + c * 5 + 4, none⟩ = some (.int .i64 jn1))
                      (with_reducible exact HT.out)
                      (first
                      | (go_at_call 15; (first | ((with_reducible refine (HS1.out _ HKe.out).mono ?_); rintro e w1 ⟨s1, rfl, hn1, hk1⟩; have HN1 := Lib.hid hn1; clear hn1) | ((with_reducible refine (HS2.out _ HKe.out).mono ?_); rintro e w1 ⟨s2, rfl, hn2, hk1⟩; have HN2 := Lib.hid hn2; replace HN1 := Lib.hid (HN1.out.kept hk1 (fun _ _ _ h => h)); clear hn2)); replace HKe := Lib.hid (HKe.out.trans hk1 (fun _ _ h => h)); replace HT := Lib.hid (HTEN.out _ HKe.out); clear hk1)
                      | (go_at_call 30; (with_reducible refine (HME.out _ _ _ _ _ HN1.out HN2.out).mono ?_); rintro e w1 ⟨rfl, rfl⟩)
                      | (go_at_call 31; (with_reducible refine (HOR.out _ HKe.out).mono ?_); rintro e w1 ⟨rfl, hk1⟩; replace HKe := Lib.hid (HKe.out.trans hk1 (fun _ _ h => h)); replace HT := Lib.hid (HTEN.out _ HKe.out); clear hk1)
                      | (go_at_call 23; (with_reducible refine (HSA.out _ HKe.out).mono ?_); rintro e w1 ⟨rfl, hk1⟩; replace HKe := Lib.hid (HKe.out.trans hk1 (fun _ _ h => h)); replace HT := Lib.hid (HTEN.out _ HKe.out); clear hk1))
                    all_goals
                      have HKF := Lib.hid (HKC.out.trans HKe.out (fun _ _ h => h))
                      go_wp2
                      exact ⟨⟨c + 1, by go_num, by omega, HKF.out⟩, by simp [RowKit.intOf]; omega⟩
                  · have zk : (ck != 0) = true := by simpa using h2
                    have zc : (cch == (c : Int)) = false := by simpa using fun h => hmv ⟨rfl, h2, h⟩
                    clear hmv h2
                    have HTEN : Hid (∀ w', Kept NoB wr w' → w'.cell? ⟨b1, o1 + c * 5, none⟩ = some (.int .i64 ch1) ∧ w'.cell? ⟨b1, o1 + c * 5 + 1, none⟩ = some (.int .u64 ep1) ∧ w'.cell? ⟨b1, o1 + c * 5 + 2, none⟩ = some (.slice xa n1 xc) ∧ w'.cell? ⟨b1, o1 + c * 5 + 3, none⟩ = some (.bool fr1) ∧ w'.cell? ⟨b1, o1 + c * 5 + 4, none⟩ = some (.int .i64 jn1) ∧ w'.cell? ⟨b2, o2 + c * 5, none⟩ = some (.int .i64 ch1) ∧ w'.cell? ⟨b2, o2 + c * 5 + 1, none⟩ = some (.int .u64 ep1) ∧ w'.cell? ⟨b2, o2 + c * 5 + 2, none⟩ = some (.slice ya n1 yc) ∧ w'.cell? ⟨b2, o2 + c * 5 + 3, none⟩ = some (.bool fr1) ∧ w'.cell? ⟨b2, o2 + c * 5 + 4, none⟩ = some (.int .i64 jn1)) := Lib.hid (fun w' hk => ⟨hk.cell (p := ⟨b1, o1 + c * 5, none⟩) (fun h => h) c0, hk.cell (p := ⟨b1, o1 + c * 5 + 1, none⟩) (fun h => h) c1, hk.cell (p := ⟨b1, o1 + c * 5 + 2, none⟩) (fun h => h) c2, hk.cell (p := ⟨b1, o1 + c * 5 + 3, none⟩) (fun h => h) c3, hk.cell (p := ⟨b1, o1 + c * 5 + 4, none⟩) (fun h => h) c4, hk.cell (p := ⟨b2, o2 + c * 5, none⟩) (fun h => h) d0, hk.cell (p := ⟨b2, o2 + c * 5 + 1, none⟩) (fun h => h) d1, hk.cell (p := ⟨b2, o2 + c * 5 + 2, none⟩) (fun h => h) d2, hk.cell (p := ⟨b2, o2 + c * 5 + 3, none⟩) (fun h => h) d3, hk.cell (p := ⟨b2, o2 + c * 5 + 4, none⟩) (fun h => h) d4⟩)
                    go_wp2_with fail
                    clear c0 c1 c2 c3 c4 d0 d1 d2 d3 d4
                    have HKe := Lib.hid (Kept.refl NoB wr).drew
                    have HT := Lib.hid (HTEN.out _ HKe.out)
                    go_region_held3 (fun w' => w'.cell? ⟨b1, o1 + c * 5, none⟩ = some (.int .i64 ch1) ∧ w'.cell? ⟨b1, o1 + c * 5 + 1, none⟩ = some (.int .u64 ep1) ∧ w'.cell? ⟨b1, o1 + c * 5 + 2, none⟩ = some (.slice xa n1 xc) ∧ w'.cell? ⟨b1, o1 + c * 5 + 3, none⟩ = some (.bool fr1) ∧ w'.cell? ⟨b1, o1 + c * 5 + 4, none⟩ = some (.int .i64 jn1) ∧ w'.cell? ⟨b2, o2 + c * 5, none⟩ = some (.int .i64 ch1) ∧ w'.cell? ⟨b2, o2 + c * 5 + 1, none⟩ = some (.int .u64 ep1) ∧ w'.cell? ⟨b2, o2 + c * 5 + 2, none⟩ = some (.slice ya n1 yc) ∧ w'.cell? ⟨b2, o2 + c * 5 + 3, none⟩ = some (.bool fr1) ∧ w'.cell? ⟨b2, o2 + c * 5 + 4, none⟩ = some (.int .i64 jn1))
                      (with_reducible exact HT.out)
                      (first
                      | (go_at_call 15; (first | ((with_reducible refine (HS1.out _ HKe.out).mono ?_); rintro e w1 ⟨s1, rfl, hn1, hk1⟩; have HN1 := Lib.hid hn1; clear hn1) | ((with_reducible refine (HS2.out _ HKe.out).mono ?_); rintro e w1 ⟨s2, rfl, hn2, hk1⟩; have HN2 := Lib.hid hn2; replace HN1 := Lib.hid (HN1.out.kept hk1 (fun _ _ _ h => h)); clear hn2)); replace HKe := Lib.hid (HKe.out.trans hk1 (fun _ _ h => h)); replace HT := Lib.hid (HTEN.out _ HKe.out); clear hk1)
                      | (go_at_call 30; (with_reducible refine (HME.out _ _ _ _ _ HN1.out HN2.out).mono ?_); rintro e w1 ⟨rfl, rfl⟩)
                      | (go_at_call 31; (with_reducible refine (HOR.out _ HKe.out).mono ?_); rintro e w1 ⟨rfl, hk1⟩; replace HKe := Lib.hid (HKe.out.trans hk1 (fun _ _ h => h)); replace HT := Lib.hid (HTEN.out _ HKe.out); clear hk1)
                      | (go_at_call 23; (with_reducible refine (HSA.out _ HKe.out).mono ?_); rintro e w1 ⟨rfl, hk1⟩; replace HKe := Lib.hid (HKe.out.trans hk1 (fun _ _ h => h)); replace HT := Lib.hid (HTEN.out _ HKe.out); clear hk1))
                    all_goals
                      have HKF := Lib.hid (HKC.out.trans HKe.out (fun _ _ h => h))
                      go_wp2
                      exact ⟨⟨c + 1, by go_num, by omega, HKF.out⟩, by simp [RowKit.intOf]; omega⟩
                · obtain rfl : ok = false := by simpa using h1
                  clear hmv h1
                  have HTEN : Hid (∀ w', Kept NoB wr w' → w'.cell? ⟨b1, o1 + c * 5, none⟩ = some (.int .i64 ch1) ∧ w'.cell? ⟨b1, o1 + c * 5 + 1, none⟩ = some (.int .u64 ep1) ∧ w'.cell? ⟨b1, o1 + c * 5 + 2, none⟩ = some (.slice xa n1 xc) ∧ w'.cell? ⟨b1, o1 + c * 5 + 3, none⟩ = some (.bool fr1) ∧ w'.cell? ⟨b1, o1 + c * 5 + 4, none⟩ = some (.int .i64 jn1) ∧ w'.cell? ⟨b2, o2 + c * 5, none⟩ = some (.int .i64 ch1) ∧ w'.cell? ⟨b2, o2 + c * 5 + 1, none⟩ = some (.int .u64 ep1) ∧ w'.cell? ⟨b2, o2 + c * 5 + 2, none⟩ = some (.slice ya n1 yc) ∧ w'.cell? ⟨b2, o2 + c * 5 + 3, none⟩ = some (.bool fr1) ∧ w'.cell? ⟨b2, o2 + c * 5 + 4, none⟩ = some (.int .i64 jn1)) := Lib.hid (fun w' hk => ⟨hk.cell (p := ⟨b1, o1 + c * 5, none⟩) (fun h => h) c0, hk.cell (p := ⟨b1, o1 + c * 5 + 1, none⟩) (fun h => h) c1, hk.cell (p := ⟨b1, o1 + c * 5 + 2, none⟩) (fun h => h) c2, hk.cell (p := ⟨b1, o1 + c * 5 + 3, none⟩) (fun h => h) c3, hk.cell (p := ⟨b1, o1 + c * 5 + 4, none⟩) (fun h => h) c4, hk.cell (p := ⟨b2, o2 + c * 5, none⟩) (fun h => h) d0, hk.cell (p := ⟨b2, o2 + c * 5 + 1, none⟩) (fun h => h) d1, hk.cell (p := ⟨b2, o2 + c * 5 + 2, none⟩) (fun h => h) d2, hk.cell (p := ⟨b2, o2 + c * 5 + 3, none⟩) (fun h => h) d3, hk.cell (p := ⟨b2, o2 + c * 5 + 4, none⟩) (fun h => h) d4⟩)
                  go_wp2_with fail
                  clear c0 c1 c2 c3 c4 d0 d1 d2 d3 d4
                  have HKe := Lib.hid (Kept.refl NoB wr).drew
                  have HT := Lib.hid (HTEN.out _ HKe.out)
                  go_region_held3 (fun w' => w'.cell? ⟨b1, o1 + c * 5, none⟩ = some (.int .i64 ch1) ∧ w'.cell? ⟨b1, o1 + c * 5 + 1, none⟩ = some (.int .u64 ep1) ∧ w'.cell? ⟨b1, o1 + c * 5 + 2, none⟩ = some (.slice xa n1 xc) ∧ w'.cell? ⟨b1, o1 + c * 5 + 3, none⟩ = some (.bool fr1) ∧ w'.cell? ⟨b1, o1 + c * 5 + 4, none⟩ = some (.int .i64 jn1) ∧ w'.cell? ⟨b2, o2 + c * 5, none⟩ = some (.int .i64 ch1) ∧ w'.cell? ⟨b2, o2 + c * 5 + 1, none⟩ = some (.int .u64 ep1) ∧ w'.cell? ⟨b2, o2 + c * 5 + 2, none⟩ = some (.slice ya n1 yc) ∧ w'.cell? ⟨b2, o2 + c * 5 + 3, none⟩ = some (.bool fr1) ∧ w'.cell? ⟨b2, o2 + c * 5 + 4, none⟩ = some (.int .i64 jn1))
                    (with_reducible exact HT.out)
                    (first
                    | (go_at_call 15; (first | ((with_reducible refine (HS1.out _ HKe.out).mono ?_); rintro e w1 ⟨s1, rfl, hn1, hk1⟩; have HN1 := Lib.hid hn1; clear hn1) | ((with_reducible refine (HS2.out _ HKe.out).mono ?_); rintro e w1 ⟨s2, rfl, hn2, hk1⟩; have HN2 := Lib.hid hn2; replace HN1 := Lib.hid (HN1.out.kept hk1 (fun _ _ _ h => h)); clear hn2)); replace HKe := Lib.hid (HKe.out.trans hk1 (fun _ _ h => h)); replace HT := Lib.hid (HTEN.out _ HKe.out); clear hk1)
                    | (go_at_call 30; (with_reducible refine (HME.out _ _ _ _ _ HN1.out HN2.out).mono ?_); rintro e w1 ⟨rfl, rfl⟩)
                    | (go_at_call 31; (with_reducible refine (HOR.out _ HKe.out).mono ?_); rintro e w1 ⟨rfl, hk1⟩; replace HKe := Lib.hid (HKe.out.trans hk1 (fun _ _ h => h)); replace HT := Lib.hid (HTEN.out _ HKe.out); clear hk1)
                    | (go_at_call 23; (with_reducible refine (HSA.out _ HKe.out).mono ?_); rintro e w1 ⟨rfl, hk1⟩; replace HKe := Lib.hid (HKe.out.trans hk1 (fun _ _ h => h)); replace HT := Lib.hid (HTEN.out _ HKe.out); clear hk1))
                  all_goals
                    have HKF := Lib.hid (HKC.out.trans HKe.out (fun _ _ h => h))
                    go_wp2
                    exact ⟨⟨c + 1, by go_num, by omega, HKF.out⟩, by simp [RowKit.intOf]; omega⟩
            · obtain rfl : c = l.length := by omega
              go_wp2
              exact ⟨⟨k + 1, l', by go_num, by omega, HYR.out, (fun _ => HST.out.all), HKR.out⟩, by simp [RowKit.intOf]; omega⟩
        · have z1 : ((1 : Int) == 0) = false := by decide
          go_wp2_with fail
          refine (HAW.out _ HKR.out).mono ?_
          rintro e w9 ⟨rfl, hk9⟩
          have HK9 := Lib.hid (HKR.out.trans hk9 (fun _ _ h => h))
          clear hk9
          go_wp2
          go_ret
          exact ⟨rfl, HK9.out⟩
      · have hk60 : decide ((k : Int) < 60) = false := decide_eq_false (by omega)
        go_wp2_with fail
        refine (HAW.out _ HKR.out).mono ?_
        rintro e w9 ⟨rfl, hk9⟩
        have HK9 := Lib.hid (HKR.out.trans hk9 (fun _ _ h => h))
        clear hk9
        go_wp2
        go_ret
        exact ⟨rfl, HK9.out⟩
    · obtain rfl : k = n := by omega
      go_wp2_with fail
      refine (HAW.out _ HKR.out).mono ?_
      rintro e w9 ⟨rfl, hk9⟩
      have HK9 := Lib.hid (HKR.out.trans hk9 (fun _ _ h => h))
      clear hk9
      go_wp2
      go_ret
      exact ⟨rfl, HK9.out⟩
end Go.Proofs.YtlnfbfdmicmafaaDoor
