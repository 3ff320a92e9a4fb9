/-
  The walk of ConfDoes.
-/
import Derived.Test.YtlnfbfdmicmafaaDoorCnfAU
import Derived.Test.YtlnfbfdmicmafaaDoorCnfAV
import Derived.Test.YtlnfbfdmicmafaaDoorCnfAN
namespace Go.Proofs.YtlnfbfdmicmafaaDoor
open Go.RowKit Go.Sort Go.Lib
set_option linter.unusedVariables false
set_option linter.unusedSimpArgs false

theorem doC_len (l : List Cf) (e0 k ch ep nd : Int) : (doC l e0 k ch ep nd).length = l.length := by
  unfold doC
  split
  · rfl
  · split
    · rfl
    · simp
set_option maxRecDepth 100000 in
set_option maxHeartbeats 1000000 in
theorem ConfDoes_many (v u : Value) (l : List Cf) (w : World) (hl : CfsR w AnyB v l) (ht : Tab9 w) (hf : ¬ Few l) : Calls Tryd.prog 4 #[v, u] w (BoolE true w) := by
  obtain ⟨a, cap, rfl, _⟩ := id hl
  have HF := Lib.hid (few_any _ l AnyB _ hl)
  have HA := Lib.hid (fun w' (hk : Kept NoB w w') => awake9 w' (ht.kept hk))
  rw [decide_eq_false hf] at HF
  clear hl ht hf
  go_enter Tryd.func4, Tryd.ntmps4
  go_wp2_with fail
  refine HF.out.mono ?_
  rintro e w1 ⟨rfl, rfl⟩
  go_wp2_with fail
  refine (HA.out _ (Kept.refl _ _)).mono ?_
  rintro e w1 ⟨rfl, hk⟩
  have HK1 := Lib.hid hk
  clear hk
  go_wp2
  go_ret
  exact ⟨rfl, HK1.out⟩
/-- What stands behind k commands: both have the same. -/
def DoRel (w : World) (n : Nat) (p q i : Value) (wr : World) : Prop :=
  ∃ (k : Nat) (L : List Cf) (pa qa : Option Addr) (pc qc : Nat), i = .int .i64 k ∧ k ≤ n ∧ k ≤ 40 ∧ p = .slice pa L.length pc ∧ q = .slice qa L.length qc ∧ CfsAt wr AnyB (.slice pa L.length pc) L ∧ CfsAt wr AnyB (.slice qa L.length qc) L ∧ L.length ≤ 6 ∧ Kept NoB w wr
set_option maxRecDepth 100000 in
set_option maxHeartbeats 4000000 in
theorem ConfDoes_few (v u : Value) (l : List Cf) (n : Nat) (it : Nat → CmQ) (w : World) (hl : CfsR w AnyB v l) (hc : CmR w u n it) (ht : Tab9 w) (hf : Few l) : Calls Tryd.prog 4 #[v, u] w (BoolE true w) := by
  have hls := hl.cfs hf
  have hL6 : l.length ≤ 6 := hf.1
  obtain ⟨a, cap, rfl, _⟩ := id hl
  obtain ⟨va, vc, rfl, hn, _⟩ := id hc
  have HV := Lib.hid hc
  have HA := Lib.hid (fun w' (hk : Kept NoB w w') => awake9 w' (ht.kept hk))
  have HF := Lib.hid (few_any _ l AnyB _ hl)
  have HCP := Lib.hid ((Copy_any _ l w AnyB hls (by omega)).mono (fun _ _ h => copy_all9 h))
  have HLS := Lib.hid hls
  rw [decide_eq_true hf] at HF
  clear hl ht hf hls hc
  go_enter Tryd.func4, Tryd.ntmps4
  go_wp2_with fail
  refine HF.out.mono ?_
  rintro e w1 ⟨rfl, rfl⟩
  go_wp2_with fail
  refine HCP.out.mono ?_
  rintro e w1 ⟨ya, yc, rfl, hy, hk1⟩
  have HY := Lib.hid hy
  have HL1 := Lib.hid (HLS.out.kept hk1 (fun _ _ _ h => h))
  have HK1 := Lib.hid hk1
  clear hy hk1
  go_wp2_with fail
  go_loopw [5, 6, 7] (DoRel w n) (fun _ _ i _ => 40 - (RowKit.intOf i).toNat)
  case atStart => exact ⟨0, l, ya, a, yc, cap, rfl, Nat.zero_le _, Nat.zero_le _, rfl, rfl, HY.out, HL1.out, hL6, HK1.out⟩
  case round =>
    obtain ⟨k, L, pa, qa, pc, qc, rfl, hkn, hk40, rfl, rfl, hp, hq, hl6, hK⟩ := hrel
    have HP := Lib.hid hp
    have HQ := Lib.hid hq
    have HK := Lib.hid hK
    clear hp hq hK
    by_cases hlt : k < n ∧ k < 40
    · obtain ⟨hlt, h40⟩ := hlt
      have hk1 : (k : Int) < (n : Int) := by omega
      have hk4 : (k : Int) < 40 := by omega
      have hk0 : (0 : Int) ≤ (k : Int) := by omega
      obtain ⟨b, o, ck, cch, cep, cnd, rfl, hcc, hep⟩ := HV.out.one HK.out hlt
      have HCC := Lib.hid hcc
      obtain ⟨c0, c1, c2, c3⟩ := hcc
      obtain ⟨e0, he0⟩ : ∃ e0, Chk ck cch cep cnd e0 := ⟨_, chk_is _ _ _ _⟩
      obtain ⟨x, hx⟩ : ∃ x, x = canC L e0 ck cch cep cnd := ⟨_, rfl⟩
      obtain ⟨M, hM⟩ : ∃ M, M = doC L e0 ck cch cep cnd := ⟨_, rfl⟩
      have hm6 : M.length ≤ 6 := by rw [hM, doC_len]; exact hl6
      have HC1 : Hid (∀ w', Kept NoB wr w' → Calls Tryd.prog 24 #[.slice pa L.length pc, .agg #[.int .i64 ck, .int .i64 cch, .int .u64 cep, .int .i64 cnd]] w' (IntE x w')) := Lib.hid (fun w' hk => by
        rw [hx]; exact Can_any _ L e0 ck cch cep cnd AnyB w' (HP.out.kept hk (fun _ _ _ h => h)) he0 hep)
      have HC2 : Hid (∀ w', Kept NoB wr w' → Calls Tryd.prog 25 #[.slice qa L.length qc, .agg #[.int .i64 ck, .int .i64 cch, .int .u64 cep, .int .i64 cnd]] w' (IntE x w')) := Lib.hid (fun w' hk => by
        rw [hx]; exact RCan_any _ L e0 ck cch cep cnd AnyB w' (HQ.out.kept hk (fun _ _ _ h => h)) (by omega) he0 hep)
      have HD1 : Hid (∀ w', Kept NoB wr w' → Calls Tryd.prog 26 #[.slice pa L.length pc, .agg #[.int .i64 ck, .int .i64 cch, .int .u64 cep, .int .i64 cnd]] w' fun e w'' => ∃ xa xc, e = .returned (.tuple #[.slice xa M.length xc, .bool (decide (x = 0))]) ∧ CfsAt w'' AnyB (.slice xa M.length xc) M ∧ Kept NoB w' w'') := Lib.hid (fun w' hk => by
        rw [hx, hM]
        refine (Do_any _ L e0 ck cch cep cnd AnyB w' (HP.out.kept hk (fun _ _ _ h => h)) (by omega) he0 hep).mono fun e w'' ⟨v, h1, h2, h3⟩ => ?_
        obtain ⟨xa, xc, rfl, _⟩ := id h2
        exact ⟨xa, xc, h1, h2.mono (fun _ _ _ => trivial), h3⟩)
      have HD2 : Hid (∀ w', Kept NoB wr w' → Calls Tryd.prog 27 #[.slice qa L.length qc, .agg #[.int .i64 ck, .int .i64 cch, .int .u64 cep, .int .i64 cnd]] w' fun e w'' => ∃ xa xc, e = .returned (.tuple #[.slice xa M.length xc, .bool (decide (x = 0))]) ∧ CfsAt w'' AnyB (.slice xa M.length xc) M ∧ Kept NoB w' w'') := Lib.hid (fun w' hk => by
        rw [hx, hM]
        refine (RDo_any _ L e0 ck cch cep cnd AnyB w' (HQ.out.kept hk (fun _ _ _ h => h)) (by omega) he0 hep).mono fun e w'' ⟨v, h1, h2, h3⟩ => ?_
        obtain ⟨xa, xc, rfl, _⟩ := id h2
        exact ⟨xa, xc, h1, h2.mono (fun _ _ _ => trivial), h3⟩)
      obtain ⟨ok, hok⟩ : ∃ ok, ok = decide (x = 0) := ⟨_, rfl⟩
      rw [← hok] at HD1 HD2
      have z1 : (x != x) = false := by simp
      have z2 : (ok != ok) = false := by simp
      clear he0 hep hx hM hok
      go_wp2_with fail
      have HKc : Hid (Kept NoB wr wr.drew) := Lib.hid (Kept.refl NoB wr).drew
      go_region_held3 (fun w' => w'.cell? ⟨b, o + k * 4, none⟩ = some (.int .i64 ck) ∧ w'.cell? ⟨b, o + k * 4 + 1, none⟩ = some (.int .i64 cch) ∧ w'.cell? ⟨b, o + k * 4 + 2, none⟩ = some (.int .u64 cep) ∧ w'.cell? ⟨b, o + k * 4 + 3, none⟩ = some (.int .i64 cnd))
        (first
          | (with_reducible exact ⟨cell_drew c0, cell_drew c1, cell_drew c2, cell_drew c3⟩)
          | (with_reducible exact ⟨k0, k1, k2, k3⟩)
          | go_keep)
        (first
          | (go_at_call 24; (with_reducible refine (HC1.out _ HKc.out).mono ?_); rintro e w1 ⟨rfl, hk1⟩; replace HKc := Lib.hid (HKc.out.trans hk1 (fun _ _ h => h)); clear hk1; have k0 := (HCC.out.no HKc.out).c0; have k1 := (HCC.out.no HKc.out).c1; have k2 := (HCC.out.no HKc.out).c2; have k3 := (HCC.out.no HKc.out).c3)
          | (go_at_call 25; (with_reducible refine (HC2.out _ HKc.out).mono ?_); rintro e w1 ⟨rfl, hk1⟩; replace HKc := Lib.hid (HKc.out.trans hk1 (fun _ _ h => h)); clear hk1; have k0 := (HCC.out.no HKc.out).c0; have k1 := (HCC.out.no HKc.out).c1; have k2 := (HCC.out.no HKc.out).c2; have k3 := (HCC.out.no HKc.out).c3))
      all_goals
        clear c0 c1 c2 c3 k0 k1 k2 k3 z1 HC1 HC2
        obtain ⟨c0, c1, c2, c3⟩ := HCC.out.no HKc.out
        go_wp2_with fail
        refine (HD1.out _ HKc.out).mono ?_
        rintro e w3 ⟨xa, xc, rfl, hx3, hk3⟩
        have HX3 := Lib.hid hx3
        have HK3 := Lib.hid (HKc.out.trans hk3 (fun _ _ h => h))
        clear c0 c1 c2 c3 hx3 hk3 HD1
        obtain ⟨c0, c1, c2, c3⟩ := HCC.out.no HK3.out
        go_wp2_with fail
        refine (HD2.out _ HK3.out).mono ?_
        rintro e w4 ⟨za, zc, rfl, hz4, hk4⟩
        have HX4 := Lib.hid (HX3.out.kept hk4 (fun _ _ _ h => h))
        have HZ4 := Lib.hid hz4
        have HK4 := Lib.hid (HK3.out.trans hk4 (fun _ _ h => h))
        clear c0 c1 c2 c3 hz4 hk4 HD2
        go_wp2_with fail
        refine (SameAll_any _ _ M M AnyB AnyB w4 HX4.out HZ4.out).mono ?_
        rintro e w5 ⟨rfl, hk5⟩
        rw [decide_eq_true rfl]
        have HK5 := Lib.hid (HK4.out.trans hk5 (fun _ _ h => h))
        have HX5 := Lib.hid (HX4.out.kept hk5 (fun _ _ _ h => h))
        have HZ5 := Lib.hid (HZ4.out.kept hk5 (fun _ _ _ h => h))
        clear hk5
        go_wp2_with fail
        refine (SameAll_any _ _ L L AnyB AnyB w5 (HP.out.kept HK5.out (fun _ _ _ h => h)) (HQ.out.kept HK5.out (fun _ _ _ h => h))).mono ?_
        rintro e w6 ⟨rfl, hk6⟩
        rw [decide_eq_true rfl]
        have HK6 := Lib.hid (HK.out.trans (HK5.out.trans hk6 (fun _ _ h => h)) (fun _ _ h => h))
        have HX6 := Lib.hid (HX5.out.kept hk6 (fun _ _ _ h => h))
        have HZ6 := Lib.hid (HZ5.out.kept hk6 (fun _ _ _ h => h))
        clear hk6
        go_wp2
        exact ⟨⟨k + 1, M, xa, za, xc, zc, by go_num, by omega, by omega, rfl, rfl, HX6.out, HZ6.out, hm6, HK6.out⟩, by simp [RowKit.intOf]; omega⟩
    · by_cases h1 : k < n
      · have h2 : k = 40 := by omega
        subst h2
        have h3 : ((40 : Nat) : Int) < (n : Int) := by omega
        have h4 : decide ((((40 : Nat) : Int)) < 40) = false := by decide
        go_wp2_with fail
        refine (HA.out _ HK.out).mono ?_
        rintro e w9 ⟨rfl, hk9⟩
        have HK9 := Lib.hid (HK.out.trans hk9 (fun _ _ h => h))
        clear hk9
        go_wp2
        go_ret
        exact ⟨rfl, HK9.out⟩
      · have h2 : k = n := by omega
        subst h2
        go_wp2_with fail
        refine (HA.out _ HK.out).mono ?_
        rintro e w9 ⟨rfl, hk9⟩
        have HK9 := Lib.hid (HK.out.trans hk9 (fun _ _ h => h))
        clear hk9
        go_wp2
        go_ret
        exact ⟨rfl, HK9.out⟩
theorem ConfDoes_any (v u : Value) (l : List Cf) (n : Nat) (it : Nat → CmQ) (w : World) (hl : CfsR w AnyB v l) (hc : CmR w u n it) (ht : Tab9 w) : Calls Tryd.prog 4 #[v, u] w (BoolE true w) := by
  by_cases hf : Few l
  · exact ConfDoes_few v u l n it w hl hc ht hf
  · exact ConfDoes_many v u l w hl ht hf
end Go.Proofs.YtlnfbfdmicmafaaDoor
