/-
  The walk of catenarylaw01.FixOnce: bytes that are read as numbers are put as the same bytes.
-/
import Derived.Test.YtnkkbajlmpccmaaAwake
import Derived.Test.YtnkkbajlmpccmaaRefD
namespace Go.Proofs.Ytnkkbajlmpccmaa
open Go.RowKit

/-- The value is a slice of ints that reads as zs. -/
def ISl (w : World) (v : Value) (zs : List Int) : Prop :=
  ∃ a cap, v = .slice a zs.length cap ∧ zs.length ≤ 9223372036854775807 ∧ (0 < zs.length → ∃ b o, a = some ⟨b, o, none⟩ ∧ b < w.heap.size ∧ ∀ j, j < zs.length → w.cell? ⟨b, o + j, none⟩ = some (.int .i64 (zs.getD j 0)))

theorem OutAt.lt {w : World} {F : Nat → Prop} {g : Nat} {s : OSt} (h : OutAt w F g s) : g < w.heap.size := by
  obtain ⟨_, _, _, _, _, _, _, v, hv, _⟩ := h
  exact heap_lt hv

theorem ISt.get_some (s : ISt) (x : Int) (h0 : s.err = 0) (he : (s.get x).1.err = 0) :
    ∃ k : Nat, x = k ∧ 1 ≤ k ∧ k ≤ 8 ∧ k ≤ s.l.length ∧ s.get x = (⟨s.l.drop k, 0⟩, (num (s.l.take k) : Int)) := by
  unfold ISt.get at he ⊢
  by_cases hw : x < 1 ∨ 8 < x
  · rw [if_pos hw] at he
    simp [ISt.fail, h0] at he
  · rw [if_neg hw] at he ⊢
    obtain ⟨k, rfl⟩ := Int.eq_ofNat_of_zero_le (show 0 ≤ x by omega)
    refine ⟨k, rfl, by omega, by omega, ?_⟩
    unfold ISt.raw at he ⊢
    rw [if_pos h0, if_neg (by omega)] at he ⊢
    by_cases hl : (s.l.length : Int) < (k : Int)
    · rw [if_pos hl] at he
      simp at he
    · rw [if_neg hl]
      exact ⟨by omega, by rw [Int.toNat_natCast]⟩

theorem once_put (c d : List Int) (k : Nat) (hb : IsB d) (h1 : 1 ≤ k) (h8 : k ≤ 8) (hk : k ≤ d.length) (hs : c.length + d.length ≤ 200) :
    (⟨c, 200, 0⟩ : OSt).emit (putErr (num (d.take k) : Int) k) (be (num (d.take k) : Int).toNat (k : Int).toNat) = ⟨c ++ d.take k, 200, 0⟩ := by
  have hl : (d.take k).length = k := by rw [List.length_take]; omega
  have hlt := num_lt (d.take k) (hb.take k)
  rw [hl] at hlt
  have hbe := be_num (d.take k) (hb.take k)
  rw [hl] at hbe
  rw [(putErr_fit (num (d.take k)) k h1 h8 hlt).1, Int.toNat_natCast, Int.toNat_natCast, hbe]
  unfold OSt.emit
  rw [if_pos rfl, if_pos rfl, if_pos (by rw [hl]; show (k : Int) ≤ 200 - (c.length : Int); omega)]

set_option maxRecDepth 100000 in
theorem FixOnce_any (v u : Value) (l0 zs : List Int) (w : World) (h : BSl w (fun k => k < w.heap.size) v l0) (hz : ISl w u zs) :
    Calls Try.prog 6 #[v, u] w fun e w' => e = .returned (.bool true) ∧ Kept NoB w w' := by
  have HV := Lib.hid h
  obtain ⟨ua, ucap, rfl, hzl, hzc⟩ := hz
  obtain ⟨a, cap, rfl, _⟩ := h
  have hzl2 : (zs.length : Int) ≤ 9223372036854775807 := by omega
  go_enter Try.func6, Try.ntmps6
  go_wp2_with fail
  refine (Cut_any _ l0 200 _ _ HV.out (by omega)).mono ?_
  rintro e w' ⟨v', rfl, hv', rfl⟩
  obtain ⟨l, hl⟩ : ∃ l, l = l0.take 200 := ⟨_, rfl⟩
  rw [← hl] at hv'
  have hl200 : l.length ≤ 200 := by rw [hl, List.length_take]; omega
  clear hl
  have HV2 := Lib.hid hv'
  obtain ⟨a', cap', rfl, hc', hm', hn', hr'⟩ := hv'
  have HN' := Lib.hid hn'
  have HR' := Lib.hid hr'
  clear hn' hr'
  go_wp2_with fail
  refine (Of_any _ l _ _ HV2.out (by omega)).mono ?_
  rintro e w1 ⟨g1, rfl, hg1, hg1l, hI1, hk1⟩
  have HI1 := Lib.hid hI1
  clear hI1
  go_wp2_with fail
  refine (New_any 200 _ (by omega)).mono ?_
  rintro e w2 ⟨rfl, hO2, hk2⟩
  have HO2 := Lib.hid hO2
  clear hO2
  go_wp2_with fail
  have hz1 := hk1.size
  obtain ⟨h1, hh1⟩ : ∃ n, n = w1.heap.size := ⟨_, rfl⟩
  rw [← hh1]
  have HH1 := Lib.hid hh1
  rw [← hh1] at HO2 hz1 hg1l
  have HK := Lib.hid (hk1.trans hk2 (fun _ _ h => h))
  have HI2 := Lib.hid (HI1.out.kept hk2 (fun _ _ h => h) (fun h => h))
  clear hh1 hk1 hk2 HI1
  go_loopw [7] (fun kk wr => ∃ (j : Nat) (c d : List Int), j ≤ zs.length ∧ kk = .int .i64 j ∧ c ++ d = l ∧ InAt wr (fun k => w.heap.size ≤ k ∧ k < g1) g1 ⟨d, 0⟩ ∧ OutAt wr (Ge h1) h1 ⟨c, 200, 0⟩ ∧ Kept NoB w wr)
    (fun kk _ => zs.length - (intOf kk).toNat)
  case atStart => exact ⟨0, [], l, Nat.zero_le _, rfl, rfl, HI2.out, HO2.out.mono (fun k _ h => h), HK.out⟩
  case round =>
    obtain ⟨j, c, d, hj, rfl, hcd, hI, hO, hk⟩ := hrel
    have HCD := Lib.hid hcd
    have HI := Lib.hid hI
    have HO := Lib.hid hO
    have HKr := Lib.hid hk
    have hcdl : (c.length : Int) + (d.length : Int) = (l.length : Int) := by rw [← hcd, List.length_append]; omega
    have HL := Lib.hid hcdl
    have hcle : c.length ≤ l.length := by omega
    have hdle : c.length + d.length ≤ 200 := by omega
    have hbd : IsB d := by obtain ⟨_, _, _, _, hb⟩ := hI; exact hb.isB
    have HBD := Lib.hid hbd
    have hcell : j < zs.length → ∃ b o, ua = some ⟨b, o, none⟩ ∧ wr.cell? ⟨b, o + j, none⟩ = some (.int .i64 (zs.getD j 0)) := fun hlt => by
      obtain ⟨b, o, e, hb, hc⟩ := hzc (by omega)
      exact ⟨b, o, e, hk.cell (p := ⟨b, o + j, none⟩) (fun h => h) (hc j hlt)⟩
    clear hcd hI hO hk hcdl hbd
    by_cases hlt : j < zs.length ∧ j < 60
    · obtain ⟨hlt1, hlt2⟩ := hlt
      obtain ⟨b, o, hua, hcj⟩ := hcell hlt1
      clear hcell
      subst hua
      obtain ⟨x, hx⟩ : ∃ x, x = zs.getD j 0 := ⟨_, rfl⟩
      rw [← hx] at hcj
      clear hx
      by_cases he : ((⟨d, 0⟩ : ISt).get x).1.err = 0
      · obtain ⟨kk, rfl, hk1, hk8, hkd, hget⟩ := ISt.get_some ⟨d, 0⟩ x rfl he
        have HG := Lib.hid hget
        clear he hget
        go_wp2_with fail
        refine (Get_any g1 ⟨d, 0⟩ kk _ _ HI.out).mono ?_
        rintro e w3 ⟨rfl, hI3, hk3⟩
        rw [HG.out] at hI3 ⊢
        simp only at hI3 ⊢
        have HI3 := Lib.hid hI3
        have HK3 := Lib.hid hk3
        have hcj3 := hk3.cell (p := ⟨b, o + j, none⟩) (by
          obtain ⟨b', o', e', hb', _⟩ := hzc (by omega)
          simp only [Option.some.injEq, Addr.mk.injEq] at e'
          intro h
          have : b = g1 := h
          omega) hcj
        clear hI3 hk3 hcj
        go_wp2_with fail
        refine (Err_any g1 _ _ _ HI3.out).mono ?_
        rintro e w4 ⟨rfl, rfl⟩
        go_wp2_with fail
        refine (Put_any h1 ⟨c, 200, 0⟩ _ kk _ _ (HO.out.kept HK3.out (fun k hx hy => by have e : k = g1 := hy; have e2 : h1 ≤ k := hx; omega)) (by omega) (by simp; omega)).mono ?_
        rintro e w4 ⟨rfl, hO4, hk4⟩
        rw [once_put c d kk HBD.out hk1 hk8 hkd hdle] at hO4
        have HO4 := Lib.hid hO4
        have HK4 := Lib.hid hk4
        clear hO4 hk4
        go_wp2
        have z3 := HK3.out.size
        refine ⟨⟨j + 1, c ++ d.take kk, d.drop kk, by omega, by go_num, by rw [List.append_assoc, List.take_append_drop]; exact HCD.out, ?_, ?_, ?_⟩, by simp [intOf]; omega⟩
        · exact HI3.out.kept HK4.out (fun k hx hy => by have e2 : h1 ≤ k := hy; omega) (fun hy => by have e2 : h1 ≤ g1 := hy; omega)
        · exact HO4.out.mono (fun k _ h => h.elim id (fun h => by
            have hx := HKr.out.size
            have := HO.out.lt
            show h1 ≤ k
            omega))
        · exact (HKr.out.trans HK3.out (fun i hi h => by have e : i = g1 := h; omega)).trans HK4.out (fun i hi h => by have e : h1 ≤ i := h; omega)
      · have hgok := ISt.get_ok (s := ⟨d, 0⟩) ⟨fun h => absurd rfl h, Int.le_refl _, by show (0 : Int) < 100; omega⟩ x
        have hgerr := ISt.get_err ⟨d, 0⟩ x he
        have heb : (((⟨d, 0⟩ : ISt).get x).1.err != 0) = true := by rw [bne_iff_ne]; exact he
        have hgl := hgok.1 he
        have HGet := Lib.hid (fun w h => Get_any g1 ⟨d, 0⟩ x (fun k => w.heap.size ≤ k ∧ k < g1) w h)
        have HGet2 := Lib.hid (fun F w h => Get_any g1 ⟨d, 0⟩ x F w h)
        clear he hgok HGet
        generalize ((⟨d, 0⟩ : ISt).get x).1 = s1 at *
        generalize ((⟨d, 0⟩ : ISt).get x).2 = n1 at *
        subst hgerr
        have hgl0 : ((s1.l.length : Int) == 0) = true := by rw [hgl]; rfl
        have HGL := Lib.hid hgl
        clear hgl
        go_wp2_with fail
        refine (HGet2.out _ _ HI.out).mono ?_
        rintro e w3 ⟨rfl, hI3, hk3⟩
        have HI3 := Lib.hid hI3
        have HK3 := Lib.hid hk3
        clear hI3 hk3
        go_wp2_with fail
        refine (Err_any g1 _ _ _ HI3.out).mono ?_
        rintro e w4 ⟨rfl, rfl⟩
        go_wp2_with fail
        refine (Left_any g1 _ _ _ HI3.out).mono ?_
        rintro e w4 ⟨rfl, rfl⟩
        go_wp2_with fail
        refine (awake_any _).mono ?_
        rintro e w4 ⟨rfl, hk4⟩
        go_wp2
        go_ret
        exact ⟨rfl, (HKr.out.trans HK3.out (fun i hi h => by have e : i = g1 := h; omega)).trans hk4 (fun i hi h => h)⟩
    · have hcase : (¬ j < zs.length) ∨ (j < zs.length ∧ 60 ≤ j) := by omega
      clear hlt hcell
      have hsum : (((c.length : Int) + (d.length : Int)) == (l.length : Int)) = true := by rw [HL.out]; simp
      have hcl2 : (c.length : Int) ≤ (l.length : Int) := by omega
      have hcc : (c.length : Int) ≤ (cap' : Int) := by omega
      rcases hcase with hj1 | ⟨hj1, hj2⟩
      all_goals
        go_wp2_with fail
        refine (Done_any _ _ _ _ HO.out (by show c.length ≤ 1000000; omega)).mono ?_
        rintro e w3 ⟨cv, rfl, hcv, hk3⟩
        have HCV := Lib.hid hcv
        obtain ⟨ca, ccap, rfl, hcl, _⟩ := hcv
        have HK3 := Lib.hid hk3
        clear hk3
        simp only at HCV
        go_wp2_with fail
        refine (Left_any g1 _ _ _ (HI.out.kept HK3.out (fun _ _ h => h) (fun h => h))).mono ?_
        rintro e w4 ⟨rfl, rfl⟩
        go_wp2_with fail
        have hkw := HKr.out.trans HK3.out (fun _ _ h => h)
        have htk := bsl_take (n := c.length) hc' hm' HN'.out HR'.out hcle
        have hct : l.take c.length = c := by rw [← HCD.out]; simp
        rw [hct] at htk
        have HKW := Lib.hid hkw
        have HTK := Lib.hid (htk.kept hkw (fun _ _ h => h))
        clear hkw htk hct
        refine (Same_any _ _ c c _ _ _ HCV.out HTK.out).mono ?_
        rintro e w4 ⟨rfl, hk4⟩
        have HK4 := Lib.hid hk4
        clear hk4
        go_wp2_with fail
        refine (awake_any _).mono ?_
        rintro e w5 ⟨rfl, hk5⟩
        go_wp2
        go_ret
        exact ⟨rfl, (HKW.out.trans HK4.out (fun _ _ h => h)).trans hk5 (fun _ _ h => h)⟩
end Go.Proofs.Ytnkkbajlmpccmaa
