/-
  Versions compared; the walk of VersPlays.
-/
import Derived.Test.YtnmclhgljpcjcaaVerS
namespace Go.Proofs.Ytnmclhgljpcjcaa
open Go.RowKit
set_option linter.unusedVariables false
set_option linter.unusedSimpArgs false

def AllRel (w : World) (n : Nat) (iv : Value) (wr : World) : Prop := ∃ k : Nat, k ≤ n ∧ iv = .int .i64 k ∧ Kept NoB w wr
set_option maxRecDepth 100000 in
set_option maxHeartbeats 1000000 in
theorem all15 (w : World) (v u : Value) (l : List Vn) (F G : Nat → Prop) (hv : VsAt w F v l) (hu : VsAt w G u l) : Calls Try.prog 24 #[v, u] w fun e w' => e = .returned (.bool true) ∧ Kept NoB w w' := by
  obtain ⟨a, c, rfl⟩ := hv.form
  obtain ⟨a', c', rfl⟩ := hu.form
  have hlm : l.length ≤ 9223372036854775807 := by have := hv.len; unfold maxLen at this; omega
  have hne : ((l.length : Int) != (l.length : Int)) = false := by simp
  have HV := Lib.hid hv
  have HU := Lib.hid hu
  clear hv hu
  go_enter Try.func24, Try.ntmps24
  go_wp2
  go_loopw [5] (AllRel w l.length) (fun i _ => l.length - (RowKit.intOf i).toNat)
  case atStart => exact ⟨0, Nat.zero_le _, rfl, Kept.refl _ _⟩
  case round =>
    obtain ⟨k, hk, rfl, hK⟩ := hrel
    have hk0 : (0 : Int) ≤ (k : Int) := by omega
    have HK := Lib.hid hK
    have hv := HV.out.no hK
    have hu := HU.out.no hK
    by_cases hlt : k < l.length
    · have hk1 : (k : Int) < (l.length : Int) := by omega
      obtain ⟨b, o, rfl, _, _, du, e0, e1, e2, hd⟩ := hv.at_ hlt
      obtain ⟨b', o', rfl, _, _, du', f0, f1, f2, hd'⟩ := hu.at_ hlt
      obtain ⟨⟨y0, y1, y2⟩, hy⟩ : ∃ y, y = nthV l k := ⟨_, rfl⟩
      rw [← hy] at e0 e1 hd f0 f1 hd'
      simp only at e0 e1 hd f0 f1 hd'
      have HLI : Hid (∀ w', Kept NoB wr w' → Calls Try.prog 26 #[.agg #[.int .u64 y0, .int .u64 y1, du], .agg #[.int .u64 y0, .int .u64 y1, du']] w' fun e w'' => e = .returned (.bool true) ∧ Kept NoB w' w'') := Lib.hid (fun w' hk =>
        (like15 w' _ _ ⟨y0, y1, y2⟩ ⟨y0, y1, y2⟩ F G ⟨_, rfl, hd.kept hk (fun _ _ h => h)⟩ ⟨_, rfl, hd'.kept hk (fun _ _ h => h)⟩).mono fun e w'' ⟨h1, h2⟩ => ⟨by rw [h1, sameVB_same], h2⟩)
      obtain ⟨va, vc, rfl, _⟩ := hd
      obtain ⟨va', vc', rfl, _⟩ := hd'
      clear hv hu hK hy
      have HTEN : Hid (∀ w', Kept NoB wr w' → w'.cell? ⟨b, o + k * 3, none⟩ = some (.int .u64 y0) ∧ w'.cell? ⟨b, o + k * 3 + 1, none⟩ = some (.int .u64 y1) ∧ w'.cell? ⟨b, o + k * 3 + 2, none⟩ = some (.slice va y2.length vc) ∧ w'.cell? ⟨b', o' + k * 3, none⟩ = some (.int .u64 y0) ∧ w'.cell? ⟨b', o' + k * 3 + 1, none⟩ = some (.int .u64 y1) ∧ w'.cell? ⟨b', o' + k * 3 + 2, none⟩ = some (.slice va' y2.length vc')) := Lib.hid (fun w' hk =>
        ⟨hk.cell (p := ⟨b, o + k * 3, none⟩) (fun h => h) e0, hk.cell (p := ⟨b, o + k * 3 + 1, none⟩) (fun h => h) e1, hk.cell (p := ⟨b, o + k * 3 + 2, none⟩) (fun h => h) e2, hk.cell (p := ⟨b', o' + k * 3, none⟩) (fun h => h) f0, hk.cell (p := ⟨b', o' + k * 3 + 1, none⟩) (fun h => h) f1, hk.cell (p := ⟨b', o' + k * 3 + 2, none⟩) (fun h => h) f2⟩)
      go_wp2_with fail
      clear e0 e1 e2 f0 f1 f2
      have HKe := Lib.hid (Kept.refl NoB wr).drew
      have HT := Lib.hid (HTEN.out _ HKe.out)
      go_region_held3 (fun w' => w'.cell? ⟨b, o + k * 3, none⟩ = some (.int .u64 y0) ∧ w'.cell? ⟨b, o + k * 3 + 1, none⟩ = some (.int .u64 y1) ∧ w'.cell? ⟨b, o + k * 3 + 2, none⟩ = some (.slice va y2.length vc) ∧ w'.cell? ⟨b', o' + k * 3, none⟩ = some (.int .u64 y0) ∧ w'.cell? ⟨b', o' + k * 3 + 1, none⟩ = some (.int .u64 y1) ∧ w'.cell? ⟨b', o' + k * 3 + 2, none⟩ = some (.slice va' y2.length vc'))
        (with_reducible exact HT.out)
        ((go_at_call 26; (with_reducible refine (HLI.out _ HKe.out).mono ?_); rintro e w1 ⟨rfl, hk1⟩; replace HKe := Lib.hid (HKe.out.trans hk1 (fun _ _ h => h)); replace HT := Lib.hid (HTEN.out _ HKe.out); clear hk1))
      go_wp2
      exact ⟨⟨k + 1, by omega, by go_num, HK.out.trans HKe.out (fun _ _ h => h)⟩, by simp [RowKit.intOf]; omega⟩
    · obtain rfl : k = l.length := by omega
      clear hv hu hK
      go_wp2
      go_ret
      exact ⟨rfl, HK.out⟩
/-- Where a block, the chapter's list, and what came in lie. -/
structure VpSt (w : World) (g : Nat) (G : Nat → Prop) (L : List Vn) (rv : Value) (wr : World) : Prop where
  bk : BkAt wr g G L
  gb : ∀ i, G i → w.heap.size ≤ i ∧ i < wr.heap.size
  rd : VsAt wr (fun i => ¬ G i ∧ i < wr.heap.size) rv L
  kp : Kept NoB w wr
theorem VpSt.no {w wr w' : World} {g : Nat} {G : Nat → Prop} {L : List Vn} {rv : Value} (h : VpSt w g G L rv wr) (hk : Kept NoB wr w') : VpSt w g G L rv w' :=
  ⟨h.bk.no hk, fun i hi => ⟨(h.gb i hi).1, Nat.lt_of_lt_of_le (h.gb i hi).2 hk.size⟩, (h.rd.no hk).mono (fun k hk' hh => ⟨hh.1, hk'⟩), h.kp.trans hk (fun _ _ h => h)⟩
theorem VpSt.next {w wr w1 w2 : World} {g : Nat} {G : Nat → Prop} {L L' : List Vn} {rv v' : Value} (h : VpSt w g G L rv wr) (hk1 : Kept NoB wr w1) (hr : VsAt w1 (NewOr (fun i => ¬ G i ∧ i < wr.heap.size) wr.heap.size) v' L') (hb : BkAt w2 g (fun k => G k ∨ w1.heap.size ≤ k) L') (hk2 : Kept G w1 w2) : ∃ G', VpSt w g G' L' v' w2 := by
  have hs1 := hk1.size
  have hs2 := hk2.size
  have hsw := h.kp.size
  refine ⟨fun k => (G k ∨ w1.heap.size ≤ k) ∧ k < w2.heap.size, hb.mono (fun k hk h => ⟨h, hk⟩), fun i hi => ⟨?_, hi.2⟩, ?_, ?_⟩
  · rcases hi.1 with hh | hh
    · exact (h.gb i hh).1
    · omega
  · have hr1 : VsAt w1 (fun k => ¬ G k ∧ k < w1.heap.size) v' L' := hr.mono (fun k hk hh => ⟨fun hg => by
      rcases hh with hh | hh
      · exact hh.1 hg
      · have := (h.gb k hg).2; omega, hk⟩)
    exact (hr1.kept hk2 (fun k hk => hk.1)).mono (fun k hk hh => ⟨fun hg => by
      rcases hg.1 with hg | hg
      · exact hh.1 hg
      · omega, hk⟩)
  · exact (h.kp.trans hk1 (fun _ _ h => h)).trans hk2 (fun i hi hg => by have := (h.gb i hg).1; omega)
/-- What Last, Clean and Pick of a block, and of the chapter's list, tell. -/
def TellV (x0 x1 : Int) (x2 : List Int) (w : World) (e : Ending) (w' : World) : Prop := ∃ u n c, e = .returned (.agg #[.int .u64 x0, .int .u64 x1, .slice u n c]) ∧ VnV w' AnyV (.agg #[.int .u64 x0, .int .u64 x1, .slice u n c]) ⟨x0, x1, x2⟩ ∧ Kept NoB w w'
theorem TellV.ofO {w w' : World} {e : Ending} {F : Nat → Prop} {x0 x1 : Int} {x2 : List Int} (h : ∃ v', e = .returned v' ∧ VnO w' F v' ⟨x0, x1, x2⟩ ∧ Kept NoB w w') : TellV x0 x1 x2 w e w' := by
  obtain ⟨v', rfl, hv, hk⟩ := h
  obtain ⟨u, rfl, hu⟩ := hv
  obtain ⟨ua, uc, rfl⟩ := own_form hu.2.1
  exact ⟨ua, _, uc, rfl, ⟨_, rfl, hu.bsl.mono (fun _ _ _ => trivial)⟩, hk⟩
theorem TellV.ofV {w w' : World} {e : Ending} {F : Nat → Prop} {x0 x1 : Int} {x2 : List Int} (h : ∃ v', e = .returned v' ∧ VnV w' F v' ⟨x0, x1, x2⟩ ∧ Kept NoB w w') : TellV x0 x1 x2 w e w' := by
  obtain ⟨v', rfl, hv, hk⟩ := h
  obtain ⟨u, rfl, hu⟩ := hv
  have hb := hu
  obtain ⟨ua, uc, rfl, _⟩ := hu
  exact ⟨ua, _, uc, rfl, ⟨_, rfl, hb.mono (fun _ _ _ => trivial)⟩, hk⟩
theorem like_two (w : World) (x0 x1 : Int) (x2 : List Int) (u u' : Option Addr) (n c n' c' : Nat) (h : VnV w AnyV (.agg #[.int .u64 x0, .int .u64 x1, .slice u n c]) ⟨x0, x1, x2⟩) (h' : VnV w AnyV (.agg #[.int .u64 x0, .int .u64 x1, .slice u' n' c']) ⟨x0, x1, x2⟩) : Calls Try.prog 26 #[.agg #[.int .u64 x0, .int .u64 x1, .slice u n c], .agg #[.int .u64 x0, .int .u64 x1, .slice u' n' c']] w fun e w' => e = .returned (.bool true) ∧ Kept NoB w w' :=
  (like15 w _ _ _ _ AnyV AnyV h h').mono fun e w' ⟨h1, h2⟩ => ⟨by rw [h1, sameVB_same], h2⟩
/-- What List of a block tells. -/
def TellL (L : List Vn) (w : World) (e : Ending) (w' : World) : Prop := ∃ r, e = .returned (.slice (some ⟨r, 0, none⟩) L.length L.length) ∧ VsAt w' AnyV (.slice (some ⟨r, 0, none⟩) L.length L.length) L ∧ Kept NoB w w'
theorem TellL.of {w w' : World} {e : Ending} {L : List Vn} (hl : L.length ≤ 100000) (h : ListEndV w L e w') : TellL L w e w' := by
  obtain ⟨r, ps, rfl, hps, hr, hx, hd, hk⟩ := h
  have hpl : ps.length = L.length := by rw [← hps, List.length_map]
  have hv := (hx.own (B := 0) (Nat.zero_le _) (by omega)).vs (F := AnyV) (fun _ _ => trivial) (fun p hp => (hd p hp).bsl.mono (fun _ _ _ => trivial))
  rw [hps, hpl] at hv
  exact ⟨r, by rw [hpl], hv, hk⟩
theorem VRow15 (w : World) (x y : Value) (l : List Vn) (F : Nat → Prop) (ht : TellsV w x y) (h : VsAt w F y l) (hasc : Asc l) (hl : l.length ≤ 100000) : Calls Try.prog 25 #[x] w (TellL l w) := (VList_any w x y l F ht h hasc hl).mono fun e w' h => TellL.of hl h
def VpRel (w : World) (n : Nat) (rv iv : Value) (wr : World) : Prop := ∃ (k : Nat) (L : List Vn) (G : Nat → Prop), k ≤ n ∧ k ≤ 40 ∧ iv = .int .i64 k ∧ L.length ≤ k ∧ VpSt w w.heap.size G L rv wr
set_option maxRecDepth 100000 in
set_option maxHeartbeats 4000000 in
theorem VersPlays_any (w : World) (v : Value) (n : Nat) (it : Nat → Op15) (h : OpsAt w v n it) : Calls Try.prog 4 #[v] w fun e w' => e = .returned (.bool true) ∧ Kept NoB w w' := by
  obtain ⟨a, c, rfl, hn, hat⟩ := h
  have HAT := Lib.hid hat
  have HN := Lib.hid (VNew_any w)
  clear hat
  go_enter Try.func4, Try.ntmps4
  go_wp2_with fail
  refine HN.out.mono ?_
  rintro e w1 ⟨rfl, hb1, hk1⟩
  have H0 : Hid (VpRel w n (.slice none 0 0) (.int .i64 0) w1) := Lib.hid ⟨0, [], fun k => k = w.heap.size, Nat.zero_le _, Nat.zero_le _, rfl, Nat.zero_le _, hb1, (fun i hi => ⟨by omega, by have := hb1.lt.1; omega⟩), VsAt.nil _ _, hk1⟩
  clear hb1 hk1
  go_wp2_with fail
  go_loopw [4, 5] (VpRel w n) (fun _ i _ => n - (RowKit.intOf i).toNat)
  case atStart => exact H0.out
  case round =>
    obtain ⟨k, L, G, hk, hk40, rfl, hll, hst⟩ := hrel
    have hk0 : (0 : Int) ≤ (k : Int) := by omega
    have HST := Lib.hid hst
    have HLL := Lib.hid hll
    obtain ⟨ra, rc, rfl⟩ := hst.rd.form
    have hK := hst.kp
    have HK := Lib.hid hK
    have HAW := Lib.hid (fun w' => awake15 w')
    clear hst hll
    by_cases hlt : k < n
    · by_cases h40 : k < 40
      · have hk1 : (k : Int) < (n : Int) := by omega
        have hk2 : (k : Int) < 40 := by omega
        obtain ⟨b, o, rfl, hb, hcell⟩ := HAT.out (by omega)
        obtain ⟨c0, ⟨du, c1, c2, c3, hd⟩, c4, c5, hfo⟩ := hcell k hlt
        obtain ⟨⟨okd, ⟨x0, x1, x2⟩, over, odone⟩, hit⟩ : ∃ x, x = it k := ⟨_, rfl⟩
        rw [← hit] at c0 c1 c2 hd c4 c5 hfo
        simp only at c0 c1 c2 hd c4 c5
        obtain ⟨hfv, hver, _, hdone, _⟩ := hfo
        simp only at hfv hver hdone
        have hd' := hd.kept hK (fun _ _ h => h)
        have HD := Lib.hid hd'
        have d0 := hK.cell (p := ⟨b, o + k * 6, none⟩) (fun h => h) c0
        have d1 := hK.cell (p := ⟨b, o + k * 6 + 1, none⟩) (fun h => h) c1
        have d2 := hK.cell (p := ⟨b, o + k * 6 + 2, none⟩) (fun h => h) c2
        have d3 := hK.cell (p := ⟨b, o + k * 6 + 3, none⟩) (fun h => h) c3
        have d4 := hK.cell (p := ⟨b, o + k * 6 + 4, none⟩) (fun h => h) c4
        have d5 := hK.cell (p := ⟨b, o + k * 6 + 5, none⟩) (fun h => h) c5
        obtain ⟨ua, uc, rfl, _⟩ := hd
        have hk6 := (Kept.refl NoB wr).alloc (.cells #[.int .i64 okd, .int .u64 x0, .int .u64 x1, .slice ua x2.length uc, .int .u64 over, .int .u64 odone] 38)
        have HX6 := Lib.hid (heap_alloc_new wr (.cells #[.int .i64 okd, .int .u64 x0, .int .u64 x1, .slice ua x2.length uc, .int .u64 over, .int .u64 odone] 38))
        have HK6 := Lib.hid hk6
        have HST6 := Lib.hid (HST.out.no hk6)
        have HD6 := Lib.hid (HD.out.kept hk6 (fun _ _ h => h))
        have f0 := cell_of_row _ _ 0 _ _ _ HX6.out
        have f1 := cell_of_row _ _ 1 _ _ _ HX6.out
        have f2 := cell_of_row _ _ 2 _ _ _ HX6.out
        have f3 := cell_of_row _ _ 3 _ _ _ HX6.out
        have f5 := cell_of_row _ _ 5 _ _ _ HX6.out
        clear hit c0 c1 c2 c3 c4 c5 hcell hd' hK hk6 hb
        by_cases hlong : 2100 < x2.length
        · have g1 : (2100 : Int) < (x2.length : Int) := by omega
          clear hlong
          go_wp2_with fail
          refine (HAW.out _).mono ?_
          rintro e w9 ⟨rfl, hk9⟩
          have HK9 := Lib.hid ((HK.out.trans HK6.out (fun _ _ h => h)).trans hk9 (fun _ _ h => h))
          clear hk9
          go_wp2
          go_ret
          exact ⟨rfl, HK9.out⟩
        · have g1 : (x2.length : Int) ≤ 2100 := by omega
          have hxl : x2.length ≤ 1000000 := by omega
          obtain ⟨W6, hW6⟩ : ∃ x, x = wr.alloc (.cells #[.int .i64 okd, .int .u64 x0, .int .u64 x1, .slice ua x2.length uc, .int .u64 over, .int .u64 odone] 38) := ⟨_, rfl⟩
          have HW6 := Lib.hid hW6
          rw [← hW6] at HX6 HK6 HST6 HD6 f0 f1 f2 f3 f5
          clear hlong hW6
          by_cases hkd : okd = 0
          · have e0 : (okd == 0) = true := by simpa using hkd
            clear hkd
            have HRP := Lib.hid (RPut15 W6 _ (.agg #[.int .u64 x0, .int .u64 x1, .slice ua x2.length uc]) L ⟨x0, x1, x2⟩ (fun i => ¬ G i ∧ i < W6.heap.size) HST6.out.rd ⟨_, rfl, HD6.out.mono (fun i hi h => ⟨fun hg => by have := (HST6.out.gb i hg).1; omega, hi⟩)⟩ HST6.out.bk.asc hfv (fun i hi => hi.2) (by have := HLL.out; omega))
            go_wp2_with fail
            rw [← HW6.out]
            go_wp2_with fail
            refine HRP.out.mono ?_
            rintro e w7 ⟨v7, rfl, hv7, hk7⟩
            obtain ⟨a7, c7, rfl⟩ := hv7.form
            have HV7 := Lib.hid hv7
            have HK7 := Lib.hid hk7
            have hx7 := hk7.heap (fun h => h) HX6.out
            have HX7 := Lib.hid hx7
            have g1' := cell_of_row _ _ 1 _ _ _ hx7
            have g2' := cell_of_row _ _ 2 _ _ _ hx7
            have g3' := cell_of_row _ _ 3 _ _ _ hx7
            clear f0 f1 f2 f3 f5 hk7 hv7 hx7
            go_wp2_with fail
            refine (ours15 w7 _ ⟨x0, x1, x2⟩ (fun k => k < w.heap.size) ⟨_, rfl, HD6.out.kept HK7.out (fun _ _ h => h)⟩).mono ?_
            rintro e w8 ⟨rfl, hk8⟩
            have HK8 := Lib.hid (HK7.out.trans hk8 (fun _ _ h => h))
            have HX8 := Lib.hid (hk8.heap (fun h => h) HX7.out)
            have HV8 := Lib.hid (HV7.out.no hk8)
            clear hk8 g1' g2' g3'
            go_wp2_with fail
            refine (VPut_any w8 w.heap.size G (fun k => k < w.heap.size) L _ ⟨x0, x1, x2⟩ (HST6.out.bk.no HK8.out) ⟨_, rfl, HD6.out.kept HK8.out (fun _ _ h => h)⟩ hfv (by have := HLL.out; omega) hxl).mono ?_
            rintro e w9 ⟨rfl, hb9, hk9⟩
            have HX9 := Lib.hid (hk9.heap (fun hg => by have := (HST.out.gb _ hg).2; omega) HX8.out)
            obtain ⟨GG, hgg⟩ := HST6.out.next HK8.out HV8.out hb9 hk9
            obtain ⟨e9, he9⟩ : ∃ x, x = putXV L ⟨x0, x1, x2⟩ := ⟨_, rfl⟩
            rw [← he9]
            have hee : (e9 != e9) = false := by simp
            have HLL9 := Lib.hid (show (putLV L ⟨x0, x1, x2⟩).length ≤ k + 1 by have := putLV_len L ⟨x0, x1, x2⟩; have := HLL.out; omega)
            clear he9 hb9 hk9 HLL HST
            obtain ⟨L9, hL9⟩ : ∃ x, x = putLV L ⟨x0, x1, x2⟩ := ⟨_, rfl⟩
            rw [← hL9] at HLL9 hgg ⊢
            have HST := Lib.hid hgg
            have HLL := Lib.hid HLL9.out
            have HXS := Lib.hid HX9.out
            obtain ⟨L, hL⟩ : ∃ x, x = L9 := ⟨_, rfl⟩
            subst hL
            obtain ⟨wS, hwS⟩ : ∃ x, x = w9 := ⟨_, rfl⟩
            subst hwS
            clear hgg hL9
            obtain ⟨ba, bc, hbc, hbv⟩ := HST.out.bk.vs
            have HTV := Lib.hid (TellsV.of hbc)
            have HBV := Lib.hid hbv
            have HAS := Lib.hid HST.out.bk.asc
            have HRV := Lib.hid HST.out.rd
            obtain ⟨⟨p0, p1, p2⟩, hp⟩ : ∃ x, x = lastV L := ⟨_, rfl⟩
            obtain ⟨⟨q0, q1, q2⟩, hq⟩ : ∃ x, x = cleanV L odone := ⟨_, rfl⟩
            obtain ⟨⟨s0, s1, s2⟩, hs⟩ : ∃ x, x = pickV L over odone := ⟨_, rfl⟩
            obtain ⟨bd, hbd⟩ : ∃ x, x = dirtyB L odone := ⟨_, rfl⟩
            have hll : L.length ≤ 100000 := by have := HLL.out; omega
            have HVL := Lib.hid (fun w' (hk : Kept NoB wS w') => (VLen_any w' _ _ L _ (HTV.out.no hk) (HBV.out.no hk)).mono fun e w'' h => show e = .returned (.int .i64 L.length) ∧ Kept NoB w' w'' from ⟨h.1, by rw [← h.2]; exact Kept.refl _ _⟩)
            have HVLi := Lib.hid (fun w' (hk : Kept NoB wS w') => VRow15 w' _ _ L _ (HTV.out.no hk) (HBV.out.no hk) HAS.out hll)
            have HVA := Lib.hid (fun w' (hk : Kept NoB wS w') v (hv : VsAt w' AnyV v L) => all15 w' v _ L AnyV _ hv (HRV.out.no hk))
            have HVP := Lib.hid (fun w' (hk : Kept NoB wS w') => (VLast_any w' _ _ L _ (HTV.out.no hk) (HBV.out.no hk) (by have := HAS.out.fit (L.length - 1); unfold lastV; omega)).mono fun e w'' h => TellV.ofO (x0 := p0) (x1 := p1) (x2 := p2) (by rw [hp]; exact h))
            have HRP := Lib.hid (fun w' (hk : Kept NoB wS w') => (RLast15_any w' _ L _ (HRV.out.no hk)).mono fun e w'' h => TellV.ofV (x0 := p0) (x1 := p1) (x2 := p2) (by rw [hp]; exact h))
            have HVQ := Lib.hid (fun w' (hk : Kept NoB wS w') => (VClean_any w' _ _ L odone _ (HTV.out.no hk) (HBV.out.no hk) HAS.out hll).mono fun e w'' h => TellV.ofO (x0 := q0) (x1 := q1) (x2 := q2) (by rw [hq]; exact h))
            have HRQ := Lib.hid (fun w' (hk : Kept NoB wS w') => (RClean15 w' _ L odone _ (HRV.out.no hk) HAS.out (fun i hi => Nat.lt_of_lt_of_le hi.2 hk.size)).mono fun e w'' h => TellV.ofV (x0 := q0) (x1 := q1) (x2 := q2) (by rw [hq]; exact h))
            have HVS := Lib.hid (fun w' (hk : Kept NoB wS w') => (VPick_any w' _ _ L over odone _ (HTV.out.no hk) (HBV.out.no hk) HAS.out hll).mono fun e w'' h => TellV.ofO (x0 := s0) (x1 := s1) (x2 := s2) (by rw [hs]; exact h))
            have HRS := Lib.hid (fun w' (hk : Kept NoB wS w') => (RPick15 w' _ L over odone _ (HRV.out.no hk) HAS.out (fun i hi => Nat.lt_of_lt_of_le hi.2 hk.size)).mono fun e w'' h => TellV.ofV (x0 := s0) (x1 := s1) (x2 := s2) (by rw [hs]; exact h))
            have HVD := Lib.hid (fun w' (hk : Kept NoB wS w') => (VDirty_any w' _ _ L odone _ (HTV.out.no hk) (HBV.out.no hk)).mono fun e w'' h => show e = .returned (.bool bd) ∧ Kept NoB w' w'' from ⟨by rw [hbd]; exact h.1, h.2⟩)
            have HRD := Lib.hid (fun w' (hk : Kept NoB wS w') => (RDirty15 w' _ L odone _ (HRV.out.no hk) hdone).mono fun e w'' h => show e = .returned (.bool bd) ∧ Kept NoB w' w'' from ⟨by rw [hbd]; exact h.1, h.2⟩)
            have hbb : (bd != bd) = false := by simp
            have hnl : ((L.length : Int) != (L.length : Int)) = false := by simp
            have HTEN : Hid (∀ w', Kept NoB wS w' → w'.cell? ⟨wr.heap.size, 4, none⟩ = some (.int .u64 over) ∧ w'.cell? ⟨wr.heap.size, 5, none⟩ = some (.int .u64 odone)) := Lib.hid (fun w' hk => ⟨cell_of_row _ _ 4 _ _ _ (hk.heap (fun h => h) HXS.out), cell_of_row _ _ 5 _ _ _ (hk.heap (fun h => h) HXS.out)⟩)
            clear hbc hbv hp hq hs hbd
            go_wp2_with fail
            have HKe := Lib.hid (Kept.refl NoB wS).drew
            have HT := Lib.hid (HTEN.out _ HKe.out)
            go_region_held3 (fun w' => w'.cell? ⟨wr.heap.size, 4, none⟩ = some (.int .u64 over) ∧ w'.cell? ⟨wr.heap.size, 5, none⟩ = some (.int .u64 odone))
              (with_reducible exact HT.out)
              (first
                | (go_at_call 23; (with_reducible refine (HVL.out _ HKe.out).mono ?_); rintro e w1 ⟨rfl, hk1⟩; replace HKe := Lib.hid (HKe.out.trans hk1 (fun _ _ h => h)); replace HT := Lib.hid (HTEN.out _ HKe.out); clear hk1)
                | (go_at_call 25; (with_reducible refine (HVLi.out _ HKe.out).mono ?_); rintro e w1 ⟨r0, rfl, hv1, hk1⟩; have HV0 := Lib.hid hv1; replace HKe := Lib.hid (HKe.out.trans hk1 (fun _ _ h => h)); replace HT := Lib.hid (HTEN.out _ HKe.out); clear hk1; clear hv1)
                | (go_at_call 24; (with_reducible refine (HVA.out _ HKe.out _ HV0.out).mono ?_); rintro e w1 ⟨rfl, hk1⟩; replace HKe := Lib.hid (HKe.out.trans hk1 (fun _ _ h => h)); replace HT := Lib.hid (HTEN.out _ HKe.out); clear hk1)
                | (go_at_call 27; (with_reducible refine (HVP.out _ HKe.out).mono ?_); rintro e w1 ⟨u1, n1, c1, rfl, hv1, hk1⟩; have HV1 := Lib.hid hv1; replace HKe := Lib.hid (HKe.out.trans hk1 (fun _ _ h => h)); replace HT := Lib.hid (HTEN.out _ HKe.out); clear hk1; clear hv1)
                | (go_at_call 28; (with_reducible refine (HRP.out _ HKe.out).mono ?_); rintro e w1 ⟨u2, n2, c2, rfl, hv1, hk1⟩; have HV2 := Lib.hid hv1; replace HV1 := Lib.hid (HV1.out.no hk1); replace HKe := Lib.hid (HKe.out.trans hk1 (fun _ _ h => h)); replace HT := Lib.hid (HTEN.out _ HKe.out); clear hk1; clear hv1)
                | (go_at_call 29; (with_reducible refine (HVQ.out _ HKe.out).mono ?_); rintro e w1 ⟨u3, n3, c3, rfl, hv1, hk1⟩; have HV3 := Lib.hid hv1; replace HKe := Lib.hid (HKe.out.trans hk1 (fun _ _ h => h)); replace HT := Lib.hid (HTEN.out _ HKe.out); clear hk1; clear hv1)
                | (go_at_call 30; (with_reducible refine (HRQ.out _ HKe.out).mono ?_); rintro e w1 ⟨u4, n4, c4, rfl, hv1, hk1⟩; have HV4 := Lib.hid hv1; replace HV3 := Lib.hid (HV3.out.no hk1); replace HKe := Lib.hid (HKe.out.trans hk1 (fun _ _ h => h)); replace HT := Lib.hid (HTEN.out _ HKe.out); clear hk1; clear hv1)
                | (go_at_call 26; (first | (with_reducible refine (like_two _ _ _ _ _ _ _ _ _ _ HV3.out HV4.out).mono ?_) | (with_reducible refine (like_two _ _ _ _ _ _ _ _ _ _ HV1.out HV2.out).mono ?_)); rintro e w1 ⟨rfl, hk1⟩; replace HKe := Lib.hid (HKe.out.trans hk1 (fun _ _ h => h)); replace HT := Lib.hid (HTEN.out _ HKe.out); clear hk1))
            go_wp2_with fail
            have HKX := Lib.hid HKe.out
            obtain ⟨wT, hwT⟩ : ∃ x, x = w1 := ⟨_, rfl⟩
            clear HKe
            have HKe := Lib.hid HKX.out.drew
            have HT := Lib.hid (HTEN.out _ HKe.out)
            go_region_held3 (fun w' => w'.cell? ⟨wr.heap.size, 4, none⟩ = some (.int .u64 over) ∧ w'.cell? ⟨wr.heap.size, 5, none⟩ = some (.int .u64 odone))
              (with_reducible exact HT.out)
              (first
                | (go_at_call 31; (with_reducible refine (HVD.out _ HKe.out).mono ?_); rintro e w1 ⟨rfl, hk1⟩; replace HKe := Lib.hid (HKe.out.trans hk1 (fun _ _ h => h)); replace HT := Lib.hid (HTEN.out _ HKe.out); clear hk1)
                | (go_at_call 32; (with_reducible refine (HRD.out _ HKe.out).mono ?_); rintro e w1 ⟨rfl, hk1⟩; replace HKe := Lib.hid (HKe.out.trans hk1 (fun _ _ h => h)); replace HT := Lib.hid (HTEN.out _ HKe.out); clear hk1)
                | (go_at_call 33; (with_reducible refine (HVS.out _ HKe.out).mono ?_); rintro e w1 ⟨u5, n5, c5, rfl, hv1, hk1⟩; have HV5 := Lib.hid hv1; replace HKe := Lib.hid (HKe.out.trans hk1 (fun _ _ h => h)); replace HT := Lib.hid (HTEN.out _ HKe.out); clear hk1; clear hv1)
                | (go_at_call 34; (with_reducible refine (HRS.out _ HKe.out).mono ?_); rintro e w1 ⟨u6, n6, c6, rfl, hv1, hk1⟩; have HV6 := Lib.hid hv1; replace HV5 := Lib.hid (HV5.out.no hk1); replace HKe := Lib.hid (HKe.out.trans hk1 (fun _ _ h => h)); replace HT := Lib.hid (HTEN.out _ HKe.out); clear hk1; clear hv1)
                | (go_at_call 26; (with_reducible refine (like_two _ _ _ _ _ _ _ _ _ _ HV5.out HV6.out).mono ?_); rintro e w1 ⟨rfl, hk1⟩; replace HKe := Lib.hid (HKe.out.trans hk1 (fun _ _ h => h)); replace HT := Lib.hid (HTEN.out _ HKe.out); clear hk1))
            go_wp2
            exact ⟨⟨k + 1, L, GG, by omega, by omega, by go_num, by have := HLL.out; omega, HST.out.no HKe.out⟩, by simp [RowKit.intOf]; omega⟩
          · have e0 : (okd == 0) = false := by simpa using hkd
            clear hkd
            have HRP := Lib.hid (RTrim15 W6 _ L odone (fun i => ¬ G i ∧ i < W6.heap.size) HST6.out.rd HST6.out.bk.asc (fun i hi => hi.2) (by have := HLL.out; omega))
            go_wp2_with fail
            rw [← HW6.out]
            go_wp2_with fail
            refine HRP.out.mono ?_
            rintro e w7 ⟨v7, rfl, hv7, hk7⟩
            obtain ⟨a7, c7, rfl⟩ := hv7.form
            have HV7 := Lib.hid hv7
            have HK7 := Lib.hid hk7
            have hx7 := hk7.heap (fun h => h) HX6.out
            have HX7 := Lib.hid hx7
            have g5' := cell_of_row _ _ 5 _ _ _ hx7
            clear f0 f1 f2 f3 f5 hk7 hv7 hx7
            go_wp2_with fail
            refine (VTrim_any w7 w.heap.size G L odone (HST6.out.bk.no HK7.out) (by have := HLL.out; omega)).mono ?_
            rintro e w9 ⟨rfl, hb9, hk9⟩
            have HX9 := Lib.hid (hk9.heap (fun hg => by have := (HST.out.gb _ hg).2; omega) HX7.out)
            obtain ⟨GG, hgg⟩ := HST6.out.next HK7.out HV7.out (hb9.mono (fun _ _ h => .inl h)) hk9
            obtain ⟨e9, he9⟩ : ∃ x, x = trimN L odone := ⟨_, rfl⟩
            rw [← he9]
            have hee : ((e9 : Int) != (e9 : Int)) = false := by simp
            have HLL9 := Lib.hid (show (trimV L odone).length ≤ k + 1 by have := trimV_len L odone; have := HLL.out; omega)
            clear he9 hb9 hk9 HLL HST g5'
            obtain ⟨L9, hL9⟩ : ∃ x, x = trimV L odone := ⟨_, rfl⟩
            rw [← hL9] at HLL9 hgg ⊢
            have HST := Lib.hid hgg
            have HLL := Lib.hid HLL9.out
            have HXS := Lib.hid HX9.out
            obtain ⟨L, hL⟩ : ∃ x, x = L9 := ⟨_, rfl⟩
            subst hL
            obtain ⟨wS, hwS⟩ : ∃ x, x = w9 := ⟨_, rfl⟩
            subst hwS
            clear hgg hL9
            obtain ⟨ba, bc, hbc, hbv⟩ := HST.out.bk.vs
            have HTV := Lib.hid (TellsV.of hbc)
            have HBV := Lib.hid hbv
            have HAS := Lib.hid HST.out.bk.asc
            have HRV := Lib.hid HST.out.rd
            obtain ⟨⟨p0, p1, p2⟩, hp⟩ : ∃ x, x = lastV L := ⟨_, rfl⟩
            obtain ⟨⟨q0, q1, q2⟩, hq⟩ : ∃ x, x = cleanV L odone := ⟨_, rfl⟩
            obtain ⟨⟨s0, s1, s2⟩, hs⟩ : ∃ x, x = pickV L over odone := ⟨_, rfl⟩
            obtain ⟨bd, hbd⟩ : ∃ x, x = dirtyB L odone := ⟨_, rfl⟩
            have hll : L.length ≤ 100000 := by have := HLL.out; omega
            have HVL := Lib.hid (fun w' (hk : Kept NoB wS w') => (VLen_any w' _ _ L _ (HTV.out.no hk) (HBV.out.no hk)).mono fun e w'' h => show e = .returned (.int .i64 L.length) ∧ Kept NoB w' w'' from ⟨h.1, by rw [← h.2]; exact Kept.refl _ _⟩)
            have HVLi := Lib.hid (fun w' (hk : Kept NoB wS w') => VRow15 w' _ _ L _ (HTV.out.no hk) (HBV.out.no hk) HAS.out hll)
            have HVA := Lib.hid (fun w' (hk : Kept NoB wS w') v (hv : VsAt w' AnyV v L) => all15 w' v _ L AnyV _ hv (HRV.out.no hk))
            have HVP := Lib.hid (fun w' (hk : Kept NoB wS w') => (VLast_any w' _ _ L _ (HTV.out.no hk) (HBV.out.no hk) (by have := HAS.out.fit (L.length - 1); unfold lastV; omega)).mono fun e w'' h => TellV.ofO (x0 := p0) (x1 := p1) (x2 := p2) (by rw [hp]; exact h))
            have HRP := Lib.hid (fun w' (hk : Kept NoB wS w') => (RLast15_any w' _ L _ (HRV.out.no hk)).mono fun e w'' h => TellV.ofV (x0 := p0) (x1 := p1) (x2 := p2) (by rw [hp]; exact h))
            have HVQ := Lib.hid (fun w' (hk : Kept NoB wS w') => (VClean_any w' _ _ L odone _ (HTV.out.no hk) (HBV.out.no hk) HAS.out hll).mono fun e w'' h => TellV.ofO (x0 := q0) (x1 := q1) (x2 := q2) (by rw [hq]; exact h))
            have HRQ := Lib.hid (fun w' (hk : Kept NoB wS w') => (RClean15 w' _ L odone _ (HRV.out.no hk) HAS.out (fun i hi => Nat.lt_of_lt_of_le hi.2 hk.size)).mono fun e w'' h => TellV.ofV (x0 := q0) (x1 := q1) (x2 := q2) (by rw [hq]; exact h))
            have HVS := Lib.hid (fun w' (hk : Kept NoB wS w') => (VPick_any w' _ _ L over odone _ (HTV.out.no hk) (HBV.out.no hk) HAS.out hll).mono fun e w'' h => TellV.ofO (x0 := s0) (x1 := s1) (x2 := s2) (by rw [hs]; exact h))
            have HRS := Lib.hid (fun w' (hk : Kept NoB wS w') => (RPick15 w' _ L over odone _ (HRV.out.no hk) HAS.out (fun i hi => Nat.lt_of_lt_of_le hi.2 hk.size)).mono fun e w'' h => TellV.ofV (x0 := s0) (x1 := s1) (x2 := s2) (by rw [hs]; exact h))
            have HVD := Lib.hid (fun w' (hk : Kept NoB wS w') => (VDirty_any w' _ _ L odone _ (HTV.out.no hk) (HBV.out.no hk)).mono fun e w'' h => show e = .returned (.bool bd) ∧ Kept NoB w' w'' from ⟨by rw [hbd]; exact h.1, h.2⟩)
            have HRD := Lib.hid (fun w' (hk : Kept NoB wS w') => (RDirty15 w' _ L odone _ (HRV.out.no hk) hdone).mono fun e w'' h => show e = .returned (.bool bd) ∧ Kept NoB w' w'' from ⟨by rw [hbd]; exact h.1, h.2⟩)
            have hbb : (bd != bd) = false := by simp
            have hnl : ((L.length : Int) != (L.length : Int)) = false := by simp
            have HTEN : Hid (∀ w', Kept NoB wS w' → w'.cell? ⟨wr.heap.size, 4, none⟩ = some (.int .u64 over) ∧ w'.cell? ⟨wr.heap.size, 5, none⟩ = some (.int .u64 odone)) := Lib.hid (fun w' hk => ⟨cell_of_row _ _ 4 _ _ _ (hk.heap (fun h => h) HXS.out), cell_of_row _ _ 5 _ _ _ (hk.heap (fun h => h) HXS.out)⟩)
            clear hbc hbv hp hq hs hbd
            go_wp2_with fail
            have HKe := Lib.hid (Kept.refl NoB wS).drew
            have HT := Lib.hid (HTEN.out _ HKe.out)
            go_region_held3 (fun w' => w'.cell? ⟨wr.heap.size, 4, none⟩ = some (.int .u64 over) ∧ w'.cell? ⟨wr.heap.size, 5, none⟩ = some (.int .u64 odone))
              (with_reducible exact HT.out)
              (first
                | (go_at_call 23; (with_reducible refine (HVL.out _ HKe.out).mono ?_); rintro e w1 ⟨rfl, hk1⟩; replace HKe := Lib.hid (HKe.out.trans hk1 (fun _ _ h => h)); replace HT := Lib.hid (HTEN.out _ HKe.out); clear hk1)
                | (go_at_call 25; (with_reducible refine (HVLi.out _ HKe.out).mono ?_); rintro e w1 ⟨r0, rfl, hv1, hk1⟩; have HV0 := Lib.hid hv1; replace HKe := Lib.hid (HKe.out.trans hk1 (fun _ _ h => h)); replace HT := Lib.hid (HTEN.out _ HKe.out); clear hk1; clear hv1)
                | (go_at_call 24; (with_reducible refine (HVA.out _ HKe.out _ HV0.out).mono ?_); rintro e w1 ⟨rfl, hk1⟩; replace HKe := Lib.hid (HKe.out.trans hk1 (fun _ _ h => h)); replace HT := Lib.hid (HTEN.out _ HKe.out); clear hk1)
                | (go_at_call 27; (with_reducible refine (HVP.out _ HKe.out).mono ?_); rintro e w1 ⟨u1, n1, c1, rfl, hv1, hk1⟩; have HV1 := Lib.hid hv1; replace HKe := Lib.hid (HKe.out.trans hk1 (fun _ _ h => h)); replace HT := Lib.hid (HTEN.out _ HKe.out); clear hk1; clear hv1)
                | (go_at_call 28; (with_reducible refine (HRP.out _ HKe.out).mono ?_); rintro e w1 ⟨u2, n2, c2, rfl, hv1, hk1⟩; have HV2 := Lib.hid hv1; replace HV1 := Lib.hid (HV1.out.no hk1); replace HKe := Lib.hid (HKe.out.trans hk1 (fun _ _ h => h)); replace HT := Lib.hid (HTEN.out _ HKe.out); clear hk1; clear hv1)
                | (go_at_call 29; (with_reducible refine (HVQ.out _ HKe.out).mono ?_); rintro e w1 ⟨u3, n3, c3, rfl, hv1, hk1⟩; have HV3 := Lib.hid hv1; replace HKe := Lib.hid (HKe.out.trans hk1 (fun _ _ h => h)); replace HT := Lib.hid (HTEN.out _ HKe.out); clear hk1; clear hv1)
                | (go_at_call 30; (with_reducible refine (HRQ.out _ HKe.out).mono ?_); rintro e w1 ⟨u4, n4, c4, rfl, hv1, hk1⟩; have HV4 := Lib.hid hv1; replace HV3 := Lib.hid (HV3.out.no hk1); replace HKe := Lib.hid (HKe.out.trans hk1 (fun _ _ h => h)); replace HT := Lib.hid (HTEN.out _ HKe.out); clear hk1; clear hv1)
                | (go_at_call 26; (first | (with_reducible refine (like_two _ _ _ _ _ _ _ _ _ _ HV3.out HV4.out).mono ?_) | (with_reducible refine (like_two _ _ _ _ _ _ _ _ _ _ HV1.out HV2.out).mono ?_)); rintro e w1 ⟨rfl, hk1⟩; replace HKe := Lib.hid (HKe.out.trans hk1 (fun _ _ h => h)); replace HT := Lib.hid (HTEN.out _ HKe.out); clear hk1))
            go_wp2_with fail
            have HKX := Lib.hid HKe.out
            obtain ⟨wT, hwT⟩ : ∃ x, x = w1 := ⟨_, rfl⟩
            clear HKe
            have HKe := Lib.hid HKX.out.drew
            have HT := Lib.hid (HTEN.out _ HKe.out)
            go_region_held3 (fun w' => w'.cell? ⟨wr.heap.size, 4, none⟩ = some (.int .u64 over) ∧ w'.cell? ⟨wr.heap.size, 5, none⟩ = some (.int .u64 odone))
              (with_reducible exact HT.out)
              (first
                | (go_at_call 31; (with_reducible refine (HVD.out _ HKe.out).mono ?_); rintro e w1 ⟨rfl, hk1⟩; replace HKe := Lib.hid (HKe.out.trans hk1 (fun _ _ h => h)); replace HT := Lib.hid (HTEN.out _ HKe.out); clear hk1)
                | (go_at_call 32; (with_reducible refine (HRD.out _ HKe.out).mono ?_); rintro e w1 ⟨rfl, hk1⟩; replace HKe := Lib.hid (HKe.out.trans hk1 (fun _ _ h => h)); replace HT := Lib.hid (HTEN.out _ HKe.out); clear hk1)
                | (go_at_call 33; (with_reducible refine (HVS.out _ HKe.out).mono ?_); rintro e w1 ⟨u5, n5, c5, rfl, hv1, hk1⟩; have HV5 := Lib.hid hv1; replace HKe := Lib.hid (HKe.out.trans hk1 (fun _ _ h => h)); replace HT := Lib.hid (HTEN.out _ HKe.out); clear hk1; clear hv1)
                | (go_at_call 34; (with_reducible refine (HRS.out _ HKe.out).mono ?_); rintro e w1 ⟨u6, n6, c6, rfl, hv1, hk1⟩; have HV6 := Lib.hid hv1; replace HV5 := Lib.hid (HV5.out.no hk1); replace HKe := Lib.hid (HKe.out.trans hk1 (fun _ _ h => h)); replace HT := Lib.hid (HTEN.out _ HKe.out); clear hk1; clear hv1)
                | (go_at_call 26; (with_reducible refine (like_two _ _ _ _ _ _ _ _ _ _ HV5.out HV6.out).mono ?_); rintro e w1 ⟨rfl, hk1⟩; replace HKe := Lib.hid (HKe.out.trans hk1 (fun _ _ h => h)); replace HT := Lib.hid (HTEN.out _ HKe.out); clear hk1))
            go_wp2
            exact ⟨⟨k + 1, L, GG, by omega, by omega, by go_num, by have := HLL.out; omega, HST.out.no HKe.out⟩, by simp [RowKit.intOf]; omega⟩
      · have hk1 : (k : Int) < (n : Int) := by omega
        have hk40' : decide ((k : Int) < 40) = false := decide_eq_false (by omega)
        clear hK
        go_wp2_with fail
        refine (HAW.out _).mono ?_
        rintro e w9 ⟨rfl, hk9⟩
        have HK9 := Lib.hid (HK.out.trans hk9 (fun _ _ h => h))
        clear hk9
        go_wp2
        go_ret
        exact ⟨rfl, HK9.out⟩
    · obtain rfl : k = n := by omega
      clear hK
      go_wp2_with fail
      refine (HAW.out _).mono ?_
      rintro e w9 ⟨rfl, hk9⟩
      have HK9 := Lib.hid (HK.out.trans hk9 (fun _ _ h => h))
      clear hk9
      go_wp2
      go_ret
      exact ⟨rfl, HK9.out⟩
end Go.Proofs.Ytnmclhgljpcjcaa
