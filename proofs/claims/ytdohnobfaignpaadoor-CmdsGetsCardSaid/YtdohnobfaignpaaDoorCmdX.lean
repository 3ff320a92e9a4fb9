/-
  The walk of CmdsGets.
-/
import Derived.Test.YtdohnobfaignpaaDoorCmdU
import Derived.Test.YtdohnobfaignpaaDoorCmdY
import Derived.Deep.Slices
namespace Go.Proofs.YtdohnobfaignpaaDoor
open Go.RowKit Go.Sort Go.Lib
set_option linter.unusedVariables false

/-- A command in four numbers. -/
structure CmV where
  k : Int
  ch : Int
  ep : Int
  nd : Int
/-- The value is a slice of n commands. -/
def CmsAt (w : World) (v : Value) (n : Nat) (it : Nat → CmV) : Prop :=
  ∃ a cap, v = .slice a n cap ∧ n ≤ 9223372036854775807 ∧ (0 < n → ∃ b o, a = some ⟨b, o, none⟩ ∧ b < w.heap.size ∧ ∀ j, j < n → w.cell? ⟨b, o + j * 4, none⟩ = some (.int .i64 (it j).k) ∧
    w.cell? ⟨b, o + j * 4 + 1, none⟩ = some (.int .i64 (it j).ch) ∧ w.cell? ⟨b, o + j * 4 + 2, none⟩ = some (.int .u64 (it j).ep) ∧ w.cell? ⟨b, o + j * 4 + 3, none⟩ = some (.int .i64 (it j).nd) ∧
    0 ≤ (it j).ep ∧ (it j).ep ≤ 18446744073709551615)
/-- What stands behind j commands. -/
def GPut (w : World) (n g : Nat) (av iv : Value) (wr : World) : Prop :=
  ∃ (j : Nat) (cs : List Int) (F A : Nat → Prop), j ≤ n ∧ j ≤ 20 ∧ iv = .int .i64 j ∧ cs.length ≤ 11 * j ∧ OutAt wr F g ⟨cs, 2000, 0⟩ ∧ Own wr A av cs ∧ (∀ k, F k → w.heap.size ≤ k ∧ k < wr.heap.size) ∧ (∀ k, A k → w.heap.size ≤ k ∧ k < wr.heap.size) ∧ (∀ k, F k → ¬ A k) ∧ Kept NoB w wr
/-- What stands behind q readings: both readers say the same. -/
def GGet (w : World) (FI FL : Nat → Prop) (gi rb : Nat) (iv : Value) (wr : World) : Prop :=
  ∃ (q : Nat) (s : ISt) (a : Option Addr) (c : Nat), q ≤ 25 ∧ iv = .int .i64 q ∧ InAt wr FI gi s ∧ wr.heap[rb]? = some (.cells #[.slice a s.l.length c, .int .i64 s.err] 51 (0, 0)) ∧ RAt wr FL (.agg #[.slice a s.l.length c, .int .i64 s.err]) s ∧ Kept NoB w wr
set_option maxRecDepth 100000 in
set_option maxHeartbeats 4000000 in
theorem CmdsGets_any (v u : Value) (n : Nat) (it : Nat → CmV) (l0 : List Int) (w : World) (hv : CmsAt w v n it) (hu : BSl w (fun k => k < w.heap.size) u l0) (hvr : Vars w) :
    Calls Tryd.prog 5 #[v, u] w (BoolEnd true w) := by
  obtain ⟨i0, hi0, hz0, hz1, hz2⟩ := info_parts Tryd.info5
  have HU := Lib.hid hu
  have HVR := Lib.hid hvr
  obtain ⟨ua, uc, rfl, _⟩ := hu
  obtain ⟨va, vc, rfl, hn63, hit⟩ := hv
  have HIT := Lib.hid hit
  have hnn : (n : Int) ≤ 9223372036854775807 := by omega
  clear hit hn63 hvr
  go_enter Tryd.func5, Tryd.ntmps5
  go_wp2_with fail
  refine (New_any 2000 _ (by decide)).mono ?_
  rintro e w1 ⟨rfl, ho, hk⟩
  rw [show max (2000 : Int) 0 = 2000 from rfl] at ho
  have HO1 := Lib.hid (ho.mono (G := fun k => w.heap.size ≤ k ∧ k < w1.heap.size) (fun k h1 h2 => ⟨h2, h1⟩))
  have HK1 := Lib.hid hk
  clear ho hk
  go_wp2_with fail
  go_loopw [6, 7] (GPut w n w.heap.size) (fun _ i _ => 20 - (RowKit.intOf i).toNat)
  case atStart => exact ⟨0, [], fun k => w.heap.size ≤ k ∧ k < w1.heap.size, fun _ => False, Nat.zero_le _, Nat.zero_le _, rfl, Nat.zero_le _, HO1.out, Own.nil _ _, fun k h => h, fun k h => h.elim, fun k _ h => h, HK1.out⟩
  case round =>
    obtain ⟨j, cs, F, A, hj, hj20, rfl, hcl, hO, hA, hF, hAA, hdis, hK⟩ := hrel
    have HO := Lib.hid hO
    have HA := Lib.hid hA
    have HF := Lib.hid hF
    have HAA := Lib.hid hAA
    have HDIS := Lib.hid hdis
    have HK := Lib.hid hK
    have hsz := hK.size
    obtain ⟨ca, cc, rfl⟩ := own_form hA.2.1
    clear hO hA hF hAA hdis hK
    by_cases hlt : j < n ∧ j < 20
    · obtain ⟨hjn, hj7⟩ := hlt
      obtain ⟨b, o, rfl, hb, hcs⟩ := HIT.out (by omega)
      obtain ⟨d0, d1, d2, d3, hep0, hep1⟩ := hcs j hjn
      have e0 := HK.out.cell (p := ⟨b, o + j * 4, none⟩) (fun h => h) d0
      have e1 := HK.out.cell (p := ⟨b, o + j * 4 + 1, none⟩) (fun h => h) d1
      have e2 := HK.out.cell (p := ⟨b, o + j * 4 + 2, none⟩) (fun h => h) d2
      have e3 := HK.out.cell (p := ⟨b, o + j * 4 + 3, none⟩) (fun h => h) d3
      have hj0 : (0 : Int) ≤ (j : Int) := by omega
      have hj1 : (j : Int) < (n : Int) := by omega
      have hj2 : (j : Int) < 20 := by omega
      generalize (it j).k = k at *
      generalize (it j).ch = ch at *
      generalize (it j).ep = ep at *
      generalize (it j).nd = nd at *
      have HE := Lib.hid (show w.cell? ⟨b, o + j * 4, none⟩ = some (.int .i64 k) ∧ w.cell? ⟨b, o + j * 4 + 1, none⟩ = some (.int .i64 ch) ∧ w.cell? ⟨b, o + j * 4 + 2, none⟩ = some (.int .u64 ep) ∧ w.cell? ⟨b, o + j * 4 + 3, none⟩ = some (.int .i64 nd) from ⟨d0, d1, d2, d3⟩)
      clear hcs d0 d1 d2 d3
      obtain ⟨x, hx⟩ : ∃ x, Chk k ch ep nd x := ⟨_, chk_is _ _ _ _⟩
      have H7 : Hid (∀ w, Calls Tryd.prog 7 #[.agg #[.int .i64 k, .int .i64 ch, .int .u64 ep, .int .i64 nd]] w fun e w' => e = .returned (.int .i64 x) ∧ Kept NoB w w') :=
        Lib.hid (fun w => (RCheck_any k ch ep nd w hep0).mono (by rintro e w' ⟨y, hy, rfl, hk⟩; exact ⟨by rw [hy.one hx], hk⟩))
      by_cases hx0 : x = 0
      · subst hx0
        have hV := Chk.ok.1 hx
        have hV2 := hV
        unfold Vld at hV2
        obtain ⟨k, rfl⟩ := Int.eq_ofNat_of_zero_le (show 0 ≤ k by omega)
        obtain ⟨ch, rfl⟩ := Int.eq_ofNat_of_zero_le (show 0 ≤ ch by omega)
        obtain ⟨ep, rfl⟩ := Int.eq_ofNat_of_zero_le hep0
        obtain ⟨nd, rfl⟩ := Int.eq_ofNat_of_zero_le (show 0 ≤ nd by omega)
        have HCM : Hid (Cm k ch ep nd) := Lib.hid ⟨hV, by omega⟩
        clear hx hV hV2
        go_wp2_with fail
        refine (Put_ok w.heap.size cs 2000 k ch ep nd F wr HO.out (fun k h => (HF.out k h).2) HCM.out (by omega) (by omega)).mono ?_
        rintro e w2 ⟨rfl, ho, hk⟩
        have HO2 := Lib.hid (ho.mono (G := fun i => (F i ∨ wr.heap.size ≤ i) ∧ i < w2.heap.size) (fun i h1 h2 => ⟨h2, h1⟩))
        have HA2 := Lib.hid (HA.out.kept hk (fun i h1 h2 => HDIS.out i h2 h1))
        have HK2 := Lib.hid (HK.out.trans (T := F) hk (fun i hi h => by have := (HF.out i h).1; omega))
        have hs2 := hk.size
        clear ho hk e0 e1 e2 e3
        have e0 := HK2.out.cell (p := ⟨b, o + j * 4, none⟩) (fun h => h) HE.out.1
        have e1 := HK2.out.cell (p := ⟨b, o + j * 4 + 1, none⟩) (fun h => h) HE.out.2.1
        have e2 := HK2.out.cell (p := ⟨b, o + j * 4 + 2, none⟩) (fun h => h) HE.out.2.2.1
        have e3 := HK2.out.cell (p := ⟨b, o + j * 4 + 3, none⟩) (fun h => h) HE.out.2.2.2
        go_wp2_with fail
        refine (H7.out _).mono ?_
        rintro e w3 ⟨rfl, hk⟩
        have HO3 := Lib.hid (HO2.out.kept hk (fun _ _ h => h))
        have HA3 := Lib.hid (HA2.out.kept hk (fun _ _ h => h))
        have HK3 := Lib.hid (HK2.out.trans hk (fun _ _ h => h))
        have hs3 := hk.size
        clear hk e0 e1 e2 e3
        have e0 := HK3.out.cell (p := ⟨b, o + j * 4, none⟩) (fun h => h) HE.out.1
        have e1 := HK3.out.cell (p := ⟨b, o + j * 4 + 1, none⟩) (fun h => h) HE.out.2.1
        have e2 := HK3.out.cell (p := ⟨b, o + j * 4 + 2, none⟩) (fun h => h) HE.out.2.2.1
        have e3 := HK3.out.cell (p := ⟨b, o + j * 4 + 3, none⟩) (fun h => h) HE.out.2.2.2
        go_wp2_with fail
        refine (CRBytes_any k ch ep nd _ HCM.out).mono ?_
        rintro e w4 ⟨bv, rfl, hb4, hk⟩
        have HBV := Lib.hid hb4
        obtain ⟨ba, bc, rfl⟩ := own_form hb4.2.1
        rw [cbs_len] at HBV ⊢
        have HO4 := Lib.hid (HO3.out.kept hk (fun _ _ h => h))
        have HA4 := Lib.hid (HA3.out.kept hk (fun _ _ h => h))
        have HK4 := Lib.hid (HK3.out.trans hk (fun _ _ h => h))
        have hs4 := hk.size
        obtain ⟨m, hm⟩ : ∃ m, m = cbs k ch ep nd := ⟨_, rfl⟩
        have hml : m.length = 11 := by rw [hm, cbs_len]
        rw [← hm] at HBV
        have HMC := Lib.hid hm
        clear hk hb4 e0 e1 e2 e3 hm
        go_wp2_with (at_builtin; refine wpList_append_bsl _ rfl (.tmp 47) (.tmp 52) _ rfl 5 i0 _ Tryd.underlying27 hi0 hz0 hz1 hz2 rfl (.slice ca cs.length cc) cs.length cs rfl HA4.out.2.1 _ (.slice ba 11 bc) m rfl HBV.out.bsl (by omega) ?_; intro a' c' w5 hown5 hg5 hat5)
        have R := HA4.out.grow (G := fun i => A i ∨ w4.heap.size ≤ i) HBV.out.1 (fun i _ h => .inl h) (fun i h => .inr h) hown5 hg5 hat5
        rw [hml] at R
        have hs5 := R.2.size
        have hO5 := HO4.out.kept R.2 (fun i h1 h2 => by
          rcases h1.1 with h3 | h3
          · exact HDIS.out i h3 h2
          · have := (HAA.out i h2).2; omega)
        exact ⟨⟨j + 1, cs ++ m, fun i => (F i ∨ wr.heap.size ≤ i) ∧ i < w2.heap.size, fun i => (A i ∨ w4.heap.size ≤ i) ∧ i < w5.heap.size, by omega, by omega, by go_num, by rw [List.length_append]; omega, by rw [HMC.out]; exact hO5, R.1.mono (fun i h1 h2 => ⟨h2, h1⟩),
          fun i h => ⟨by rcases h.1 with h | h; exact (HF.out i h).1; omega, by have := h.2; omega⟩, fun i h => ⟨by rcases h.1 with h | h; exact (HAA.out i h).1; omega, h.2⟩,
          fun i h1 h2 => by
            rcases h2.1 with h3 | h3
            · rcases h1.1 with h4 | h4
              · exact HDIS.out i h4 h3
              · have := (HAA.out i h3).2; omega
            · have := h1.2; omega, HK4.out.trans (T := A) R.2 (fun i hi h => by have := (HAA.out i h).1; omega)⟩, by simp [RowKit.intOf]; omega⟩
      · have hxb : (x != 0) = true := by simpa using hx0
        have hxe : (x == 0) = false := by simpa using hx0
        have HPB : Hid (∀ g w, Calls Tryd.prog 22 #[.pointer (some ⟨g, 0, none⟩), .agg #[.int .i64 k, .int .i64 ch, .int .u64 ep, .int .i64 nd]] w fun r w' => r = .returned (.int .i64 x) ∧ Kept NoB w w') := Lib.hid (fun g w => Put_bad g k ch ep nd x w hep0 hx hx0)
        clear hx hx0
        go_wp2_with fail
        refine (HPB.out _ _).mono ?_
        rintro e w2 ⟨rfl, hk⟩
        have HO2 := Lib.hid (HO.out.kept hk (fun _ _ h => h))
        have HA2 := Lib.hid (HA.out.kept hk (fun _ _ h => h))
        have HK2 := Lib.hid (HK.out.trans hk (fun _ _ h => h))
        have hs2 := hk.size
        clear hk e0 e1 e2 e3
        have e0 := HK2.out.cell (p := ⟨b, o + j * 4, none⟩) (fun h => h) HE.out.1
        have e1 := HK2.out.cell (p := ⟨b, o + j * 4 + 1, none⟩) (fun h => h) HE.out.2.1
        have e2 := HK2.out.cell (p := ⟨b, o + j * 4 + 2, none⟩) (fun h => h) HE.out.2.2.1
        have e3 := HK2.out.cell (p := ⟨b, o + j * 4 + 3, none⟩) (fun h => h) HE.out.2.2.2
        go_wp2_with fail
        refine (H7.out _).mono ?_
        rintro e w3 ⟨rfl, hk⟩
        have HO3 := Lib.hid (HO2.out.kept hk (fun _ _ h => h))
        have HA3 := Lib.hid (HA2.out.kept hk (fun _ _ h => h))
        have HK3 := Lib.hid (HK2.out.trans hk (fun _ _ h => h))
        have hs3 := hk.size
        clear hk e0 e1 e2 e3
        go_wp2
        exact ⟨⟨j + 1, cs, F, A, by omega, by omega, by go_num, by omega, HO3.out, HA3.out, fun i h => ⟨(HF.out i h).1, by have := (HF.out i h).2; omega⟩, fun i h => ⟨(HAA.out i h).1, by have := (HAA.out i h).2; omega⟩, HDIS.out, HK3.out⟩, by simp [RowKit.intOf]; omega⟩
    · have hcase : (¬ j < n) ∨ (j < n ∧ 20 ≤ j) := by omega
      clear hlt
      rcases hcase with h1 | ⟨h1, h2⟩
      all_goals
        go_wp2_with fail
        refine (Done_any w.heap.size ⟨cs, 2000, 0⟩ F wr HO.out (by show cs.length ≤ 1000000; omega)).mono ?_
        rintro e w2 ⟨dv, rfl, hd, hk⟩
        have HD := Lib.hid (show BSl w2 (fun k => wr.heap.size ≤ k) dv cs from hd)
        obtain ⟨da, dc, rfl, _⟩ := hd
        have HA2 := Lib.hid (HA.out.kept hk (fun _ _ h => h))
        have HK2 := Lib.hid (HK.out.trans hk (fun _ _ h => h))
        have hs2 := hk.size
        clear hk
        go_wp2_with fail
        refine (Same_any _ _ cs cs _ _ w2 HD.out HA2.out.bsl).mono ?_
        rintro e w3 ⟨rfl, hk⟩
        rw [decide_eq_true rfl]
        have HA3 := Lib.hid (HA2.out.kept hk (fun _ _ h => h))
        have HK3 := Lib.hid (HK2.out.trans hk (fun _ _ h => h))
        have HU3 := Lib.hid (HU.out.kept HK3.out (fun _ _ h => h))
        have hs3 := hk.size
        clear hk
        go_wp2_with fail
        refine (Cut_any _ l0 40 _ _ HU3.out (by omega)).mono ?_
        rintro e w' ⟨xv, rfl, hx, rfl⟩
        obtain ⟨m, hm⟩ : ∃ m, m = l0.take 40 := ⟨_, rfl⟩
        have hml : m.length ≤ 40 := by rw [hm, List.length_take]; omega
        rw [← hm] at hx
        have HX := Lib.hid hx
        obtain ⟨xa, xc, rfl, _⟩ := hx
        clear hm
        go_wp2_with (at_builtin; refine wpList_append_bsl _ rfl (.tmp 67) (.tmp 69) _ rfl 5 i0 _ Tryd.underlying27 hi0 hz0 hz1 hz2 rfl (.slice ca cs.length cc) cs.length cs rfl HA3.out.2.1 _ _ m rfl HX.out (by omega) ?_; intro a' c' w5 hown5 hg5 hat5)
        have R := HA3.out.grow (G := fun i => A i ∨ w3.heap.size ≤ i) HX.out.isB (fun i _ h => .inl h) (fun i h => .inr h) hown5 hg5 hat5
        have hs5 := R.2.size
        obtain ⟨L, hL⟩ : ∃ L, L = cs ++ m := ⟨_, rfl⟩
        have hLl : L.length ≤ 1000 := by rw [hL, List.length_append]; omega
        have hLe : cs.length + m.length = L.length := by rw [hL, List.length_append]
        rw [← hL, hLe] at R
        rw [hLe]
        have HL5 := Lib.hid (R.1.bsl.mono (G := fun i => w.heap.size ≤ i ∧ i < w5.heap.size) (fun i hi h => ⟨by rcases h with h | h; exact (HAA.out i h).1; omega, hi⟩))
        have HK5 := Lib.hid (HK3.out.trans (T := A) R.2 (fun i hi h => by have := (HAA.out i h).1; omega))
        clear R hown5 hg5 hat5 hL hLe HD HA HA2 HA3 HO HF HAA HDIS HX HU3
        go_wp2_with fail
        refine (Of_any _ L _ _ HL5.out (by omega)).mono ?_
        rintro e w6 ⟨gi, rfl, hg1, hg2, ho, hk⟩
        have HL6 := Lib.hid (HL5.out.kept hk (fun _ _ h => h))
        have HO6 := Lib.hid ho
        have HK6 := Lib.hid (HK5.out.trans hk (fun _ _ h => h))
        have hs6 := hk.size
        clear hk ho
        have HK7 := Lib.hid (HK6.out.alloc (.cells #[.slice a' L.length c', .int .i64 0] 51))
        have HO7 := Lib.hid (HO6.out.kept ((Kept.refl NoB w6).alloc (.cells #[.slice a' L.length c', .int .i64 0] 51)) (fun _ _ h => h) (fun h => h))
        have HL7 := Lib.hid (HL6.out.kept ((Kept.refl NoB w6).alloc (.cells #[.slice a' L.length c', .int .i64 0] 51)) (fun _ _ h => h))
        have HB7 := Lib.hid (heap_alloc_new w6 (.cells #[.slice a' L.length c', .int .i64 0] 51))
        have hz7 : (w6.alloc (.cells #[.slice a' L.length c', .int .i64 0] 51)).heap.size = w6.heap.size + 1 := by simp
        have HIO : Hid (∀ i, (w5.heap.size ≤ i ∧ i < gi) → i < w6.heap.size) := Lib.hid (fun i h => by omega)
        have hgw : w.heap.size ≤ gi := by omega
        go_wp2_with fail
        go_loopw [13] (fun i wr => GGet w (fun k => w5.heap.size ≤ k ∧ k < gi) (fun k => w.heap.size ≤ k ∧ k < w5.heap.size) gi w6.heap.size i wr ∧ w6.heap.size < wr.heap.size) (fun i _ => 25 - (RowKit.intOf i).toNat)
        case atStart => exact ⟨⟨0, ⟨L, 0⟩, a', c', Nat.zero_le _, rfl, HO7.out, HB7.out, ⟨⟨fun h => absurd rfl h, Int.le_refl _, by show (0 : Int) < 100; omega⟩, _, rfl, HL7.out⟩, HK7.out⟩, by rw [hz7]; omega⟩
        case round =>
          obtain ⟨⟨q, s, ra, rc, hq, rfl, hi, hb, hr, hk⟩, hrb⟩ := hrel
          have HI := Lib.hid hi
          have HB := Lib.hid hb
          have HR := Lib.hid hr
          have HK := Lib.hid hk
          obtain ⟨n1, hn1⟩ : ∃ n1, n1 = s.l.length := ⟨_, rfl⟩
          have HN1 := Lib.hid hn1
          rw [← hn1] at HB HR
          obtain ⟨r0, r1, rf0, rf1⟩ := cells2 HB.out
          clear hi hb hr hk hn1
          by_cases hlt : q < 25
          · have hlt1 : (q : Int) < 25 := by omega
            have HRG := Lib.hid (CRGet_any _ s _ wr HR.out (fun i h => by have := h.2; omega))
            go_wp2_with fail
            refine HRG.out.mono ?_
            rintro e w2 ⟨v', k, ch, ep, nd, x, hG, hx, rfl, hv', hk⟩
            have HG := Lib.hid hG
            have HV := Lib.hid hv'
            obtain ⟨hk4, hc3, hep, hnd⟩ := hG.le
            obtain ⟨_, jb, rfl, hjb⟩ := hv'
            obtain ⟨ja, jc, rfl, _⟩ := hjb
            obtain ⟨n2, hn2⟩ : ∃ n2, n2 = (s.raw 11).1.l.length := ⟨_, rfl⟩
            obtain ⟨y, hy⟩ : ∃ y, y = (s.raw 11).1.err := ⟨_, rfl⟩
            have HN2 := Lib.hid hn2
            have HY := Lib.hid hy
            rw [← hn2, ← hy] at HV ⊢
            have HB2 := Lib.hid (hk.heap (fun h => h) HB.out)
            have HI2 := Lib.hid (HI.out.kept hk (fun _ _ h => h) (fun h => h))
            have HK2 := Lib.hid (HK.out.trans hk (fun _ _ h => h))
            have hs2 := hk.size
            clear hk hG hn2 hy r0 r1 rf0 rf1
            obtain ⟨r0, r1, rf0, rf1⟩ := cells2 HB2.out
            have hrb2 : w6.heap.size < w2.heap.size := by omega
            have hne1 : ¬ w2.heap.size = w6.heap.size := by omega
            have hne2 : ¬ w2.heap.size + 1 = w6.heap.size := by omega
            go_wp2_with fail
            have hza : ((w2.setCell ⟨w6.heap.size, 0, none⟩ (.slice ja n2 jc)).setCell ⟨w6.heap.size, 1, none⟩ (.int .i64 y)).heap.size = w2.heap.size := by simp [World.setCell]
            have hzj : (((w2.setCell ⟨w6.heap.size, 0, none⟩ (.slice ja n2 jc)).setCell ⟨w6.heap.size, 1, none⟩ (.int .i64 y)).alloc (.cells #[.slice ja n2 jc, .int .i64 y] 51)).heap.size = w2.heap.size + 1 := by simp [World.setCell]
            have HBA : Hid (((w2.setCell ⟨w6.heap.size, 0, none⟩ (.slice ja n2 jc)).setCell ⟨w6.heap.size, 1, none⟩ (.int .i64 y)).heap[w6.heap.size]? = some (.cells #[.slice ja n2 jc, .int .i64 y] 51 (0, 0))) := Lib.hid (bset (bset HB2.out 0 (.slice ja n2 jc)) 1 (.int .i64 y))
            have HIA := Lib.hid ((HI2.out.set (b := w6.heap.size) (fun i h => by have := HIO.out i h; omega) (by omega) 0 (.slice ja n2 jc)).set (b := w6.heap.size) (fun i h => by have := HIO.out i h; omega) (by omega) 1 (.int .i64 y))
            have HVA := Lib.hid (HV.out.kept (S := Only w6.heap.size) (((Kept.refl _ w2).only 0 (.slice ja n2 jc)).only 1 (.int .i64 y)) (fun i h he => by have he' : i = w6.heap.size := he; have := h.2; omega))
            have HKA := Lib.hid (new_kept (new_kept HK2.out (show w.heap.size ≤ w6.heap.size by omega) 0 (.slice ja n2 jc)) (show w.heap.size ≤ w6.heap.size by omega) 1 (.int .i64 y))
            have HB3 := Lib.hid (balloc (balloc HBA.out (.cells #[.slice ja n2 jc, .int .i64 y] 51)) (.cells #[.int .i64 (k : Int), .int .i64 (ch : Int), .int .u64 (ep : Int), .int .i64 (nd : Int)] 24))
            have hd3 := heap_alloc_new (((w2.setCell ⟨w6.heap.size, 0, none⟩ (.slice ja n2 jc)).setCell ⟨w6.heap.size, 1, none⟩ (.int .i64 y)).alloc (.cells #[.slice ja n2 jc, .int .i64 y] 51)) (.cells #[.int .i64 (k : Int), .int .i64 (ch : Int), .int .u64 (ep : Int), .int .i64 (nd : Int)] 24)
            rw [hzj] at hd3
            have HD3 := Lib.hid hd3
            have HI3 := Lib.hid (HIA.out.kept (((Kept.refl NoB ((w2.setCell ⟨w6.heap.size, 0, none⟩ (.slice ja n2 jc)).setCell ⟨w6.heap.size, 1, none⟩ (.int .i64 y))).alloc (.cells #[.slice ja n2 jc, .int .i64 y] 51)).alloc (.cells #[.int .i64 (k : Int), .int .i64 (ch : Int), .int .u64 (ep : Int), .int .i64 (nd : Int)] 24)) (fun _ _ h => h) (fun h => h))
            have HV3 := Lib.hid (HVA.out.kept (((Kept.refl NoB ((w2.setCell ⟨w6.heap.size, 0, none⟩ (.slice ja n2 jc)).setCell ⟨w6.heap.size, 1, none⟩ (.int .i64 y))).alloc (.cells #[.slice ja n2 jc, .int .i64 y] 51)).alloc (.cells #[.int .i64 (k : Int), .int .i64 (ch : Int), .int .u64 (ep : Int), .int .i64 (nd : Int)] 24)) (fun _ _ h => h))
            have HK3 := Lib.hid ((HKA.out.alloc (.cells #[.slice ja n2 jc, .int .i64 y] 51)).alloc (.cells #[.int .i64 (k : Int), .int .i64 (ch : Int), .int .u64 (ep : Int), .int .i64 (nd : Int)] 24))
            have hz3 : ((((w2.setCell ⟨w6.heap.size, 0, none⟩ (.slice ja n2 jc)).setCell ⟨w6.heap.size, 1, none⟩ (.int .i64 y)).alloc (.cells #[.slice ja n2 jc, .int .i64 y] 51)).alloc (.cells #[.int .i64 (k : Int), .int .i64 (ch : Int), .int .u64 (ep : Int), .int .i64 (nd : Int)] 24)).heap.size = w2.heap.size + 2 := by simp [World.setCell]
            clear hd3 HBA HIA HVA HKA hza hzj r0 r1 rf0 rf1
            generalize hW3 : World.alloc (World.alloc _ _) _ = w3 at HB3 HD3 HI3 HV3 HK3 hz3 ⊢
            clear hW3
            refine (CGet_any gi s _ w3 HI3.out (fun i h => by have := HIO.out i h; omega)).mono ?_
            rintro e w4' ⟨k', ch', ep', nd', x', hG', hx', rfl, hi', hk⟩
            obtain ⟨rfl, rfl, rfl, rfl, rfl⟩ := HG.out.one hG'
            have HB4 := Lib.hid (balloc (hk.heap (fun h : w6.heap.size = gi => by omega) HB3.out) (.cells #[.int .i64 (k : Int), .int .i64 (ch : Int), .int .u64 (ep : Int), .int .i64 (nd : Int)] 24))
            have HD4 := Lib.hid (balloc (hk.heap (fun h : w2.heap.size + 1 = gi => by omega) HD3.out) (.cells #[.int .i64 (k : Int), .int .i64 (ch : Int), .int .u64 (ep : Int), .int .i64 (nd : Int)] 24))
            have HE4 := Lib.hid (heap_alloc_new w4' (.cells #[.int .i64 (k : Int), .int .i64 (ch : Int), .int .u64 (ep : Int), .int .i64 (nd : Int)] 24))
            have HI4 := Lib.hid (hi'.kept ((Kept.refl NoB w4').alloc (.cells #[.int .i64 (k : Int), .int .i64 (ch : Int), .int .u64 (ep : Int), .int .i64 (nd : Int)] 24)) (fun _ _ h => h) (fun h => h))
            have HV4 := Lib.hid (HV3.out.kept (hk.trans (T := NoB) ((Kept.refl NoB w4').alloc (.cells #[.int .i64 (k : Int), .int .i64 (ch : Int), .int .u64 (ep : Int), .int .i64 (nd : Int)] 24)) (fun _ _ h => h.elim)) (fun i h he => by have he' : i = gi := he; have := h.2; omega))
            have HK4 := Lib.hid ((HK3.out.trans (T := Only gi) hk (fun i hi h => by have h' : i = gi := h; omega)).alloc (.cells #[.int .i64 (k : Int), .int .i64 (ch : Int), .int .u64 (ep : Int), .int .i64 (nd : Int)] 24))
            have hs4 := hk.size
            have hz4 : (w4'.alloc (.cells #[.int .i64 (k : Int), .int .i64 (ch : Int), .int .u64 (ep : Int), .int .i64 (nd : Int)] 24)).heap.size = w4'.heap.size + 1 := by simp
            clear hk hi' hG' hx'
            go_wp2_with fail
            generalize hW4 : w4'.alloc (.cells #[.int .i64 (k : Int), .int .i64 (ch : Int), .int .u64 (ep : Int), .int .i64 (nd : Int)] 24) = w5' at HB4 HD4 HE4 HI4 HV4 HK4 hz4 ⊢
            clear hW4
            obtain ⟨r0, r1, rf0, rf1⟩ := cells2 HB4.out
            obtain ⟨d0, d1, d2, d3, _⟩ := cells4 HD4.out
            obtain ⟨e0, e1, e2, e3, _⟩ := cells4 HE4.out
            have hn2i : n2 = (s.raw 11).1.l.length := HN2.out
            go_region_held3 (fun w' => w'.cell? ⟨w4'.heap.size, 0, none⟩ = some (.int .i64 (k : Int)) ∧ w'.cell? ⟨w4'.heap.size, 1, none⟩ = some (.int .i64 (ch : Int)) ∧ w'.cell? ⟨w4'.heap.size, 2, none⟩ = some (.int .u64 (ep : Int)) ∧ w'.cell? ⟨w4'.heap.size, 3, none⟩ = some (.int .i64 (nd : Int)) ∧ w'.cell? ⟨w2.heap.size + 1, 0, none⟩ = some (.int .i64 (k : Int)) ∧ w'.cell? ⟨w2.heap.size + 1, 1, none⟩ = some (.int .i64 (ch : Int)) ∧ w'.cell? ⟨w2.heap.size + 1, 2, none⟩ = some (.int .u64 (ep : Int)) ∧ w'.cell? ⟨w2.heap.size + 1, 3, none⟩ = some (.int .i64 (nd : Int)) ∧ w'.cell? ⟨w6.heap.size, 0, none⟩ = some (.slice ja n2 jc))
              (first
                | exact ⟨cell_drew e0, cell_drew e1, cell_drew e2, cell_drew e3, cell_drew d0, cell_drew d1, cell_drew d2, cell_drew d3, cell_drew r0⟩
                | go_keep)
              ((go_at_call 27; refine (Left_any gi (s.raw 11).1 (fun k => w5.heap.size ≤ k ∧ k < gi) _ (by exact HI4.out)).mono ?_; rintro e w7 ⟨rfl, rfl⟩; rw [← hn2i]))
            all_goals
              go_wp2
              exact ⟨⟨⟨q + 1, (s.raw 11).1, ja, jc, by omega, by go_num, HI4.out.drewN 1, by rw [← HN2.out, ← HY.out]; exact HB4.out, by rw [← HN2.out, ← HY.out]; exact HV4.out.kept ((Kept.refl NoB w5').drew) (fun _ _ h => h), HK4.out.drew⟩, by show w6.heap.size < w5'.heap.size; omega⟩, by simp [RowKit.intOf]; omega⟩
          · have hq25 : q = 25 := by omega
            subst hq25
            clear hlt
            go_wp2_with fail
            refine (CGet_nil _).mono ?_
            rintro e w8 ⟨rfl, hk⟩
            have HK8 := Lib.hid (HK.out.trans hk (fun _ _ h => h))
            have HK9 := Lib.hid (HK8.out.alloc (.cells #[.int .i64 0, .int .i64 0, .int .u64 0, .int .i64 0] 24))
            have HAW := Lib.hid (awake8 w8 (HVR.out.kept HK8.out))
            have HAW2 := Lib.hid (awake8 (w8.alloc (.cells #[.int .i64 0, .int .i64 0, .int .u64 0, .int .i64 0] 24)) (HVR.out.kept HK9.out))
            clear hk
            go_wp2_with fail
            first
              | refine HAW.out.mono ?_
              | refine HAW2.out.mono ?_
            rintro e w9 ⟨rfl, hk⟩
            have HKF : Hid (Kept NoB w w9) := Lib.hid (by first | exact HK8.out.trans hk (fun _ _ h => h) | exact HK9.out.trans hk (fun _ _ h => h))
            clear hk
            go_wp2
            go_ret
            exact ⟨rfl, HKF.out⟩
end Go.Proofs.YtdohnobfaignpaaDoor
