/-
  The walk of FrameAll.
-/
import Derived.Test.YtpcacndbagiajaaFrmM
import Derived.Test.YtpcacndbagiajaaFrmO
namespace Go.Proofs.Ytpcacndbagiajaa
open Go.RowKit

theorem putF_len (k : Nat) (l : List Int) : (putF k l).1.length ≤ l.length + 7 := by
  unfold putF
  split
  · simp
  · split
    · simp
    · rw [List.length_append, List.length_cons, List.length_append, be_len]
      show _ + 4 ≤ _
      omega

theorem FrsAt.at_ {w : World} {F G : Nat → Prop} {e : TypeId} {v : Value} {fs : List FR} (h : FrsAt w F G e v fs) {j : Nat} (hj : j < fs.length) :
    ∃ (g c : Nat) (f : FR) (bv : Value), v = .slice (some ⟨g, 0, none⟩) fs.length c ∧ fs[j]? = some f ∧ w.cell? ⟨g, j * 2, none⟩ = some (.int .u8 f.kind) ∧ w.cell? ⟨g, j * 2 + 1, none⟩ = some bv ∧ BSl w G bv f.body := by
  obtain ⟨xs, h1, h2, _⟩ := h
  obtain ⟨g, c, rfl, _, _⟩ := h1.form (by omega)
  obtain ⟨f, hf⟩ : ∃ f, fs[j]? = some f := ⟨_, List.getElem?_eq_getElem hj⟩
  obtain ⟨h3, bv, h4, h5⟩ := h2 j f hf
  refine ⟨g, c, f, bv, rfl, hf, ?_, ?_, h5.mono (fun _ _ h => h.1)⟩
  · rw [h1.cellAt (j * 2) (by omega), Nat.mul_comm]; exact h3
  · rw [h1.cellAt (j * 2 + 1) (by omega), Nat.mul_comm]; exact h4

/-- What stands behind j frames: their bytes, one behind the other. -/
def PutRel (w : World) (n : Nat) (bv iv : Value) (wr : World) : Prop :=
  ∃ (j : Nat) (c : List Int), j ≤ n ∧ j ≤ 8 ∧ iv = .int .i64 j ∧ c.length ≤ 207 * j ∧ Own wr (fun b => w.heap.size ≤ b) bv c ∧ Kept NoB w wr

set_option maxHeartbeats 2000000 in
set_option maxRecDepth 100000 in
theorem FrameAll_any (v u : Value) (n : Nat) (it : Nat → Fm) (l0 : List Int) (w : World) (hv : FmsAt w v n it) (hu : BSl w (fun k => k < w.heap.size) u l0) :
    Calls Try.prog 8 #[v, u] w fun e w' => e = .returned (.bool true) ∧ Kept NoB w w' := by
  obtain ⟨i0, hi0, hz0, hz1, hz2⟩ := info_parts Try.info5
  have HU := Lib.hid hu
  obtain ⟨ua, uc, rfl, _⟩ := hu
  obtain ⟨va, vc, rfl, hn63, hit⟩ := hv
  have HIT := Lib.hid hit
  have hnn : (n : Int) ≤ 9223372036854775807 := by omega
  clear hit hn63
  go_enter Try.func8, Try.ntmps8
  go_wp2_with fail
  go_loopw [5, 6] (PutRel w n) (fun _ i _ => 8 - (intOf i).toNat)
  case atStart => exact ⟨0, [], Nat.zero_le _, Nat.zero_le _, rfl, Nat.zero_le _, Own.nil _ _, Kept.refl _ _⟩
  case round =>
    obtain ⟨j, c, hj, hj8, rfl, hcl, hO, hK⟩ := hrel
    have HO := Lib.hid hO
    have HK := Lib.hid hK
    have hsz := hK.size
    obtain ⟨ca, cc, rfl⟩ := own_form hO.2.1
    clear hO hK
    by_cases hlt : j < n ∧ j < 8
    · obtain ⟨hjn, hj7⟩ := hlt
      obtain ⟨b, o, rfl, hb, hcs⟩ := HIT.out (by omega)
      obtain ⟨d0, hk, fv, d1, hbl⟩ := hcs j hjn
      have e0 := HK.out.cell (p := ⟨b, o + j * 2, none⟩) (fun h => h) d0
      have e1 := HK.out.cell (p := ⟨b, o + j * 2 + 1, none⟩) (fun h => h) d1
      have hj0 : (0 : Int) ≤ (j : Int) := by omega
      have hj1 : (j : Int) < (n : Int) := by omega
      have hj2 : (j : Int) < 8 := by omega
      have HBL := Lib.hid (hbl.kept HK.out (fun _ _ h => h))
      obtain ⟨k, hke⟩ : ∃ k, k = (it j).k := ⟨_, rfl⟩
      obtain ⟨l, hle⟩ : ∃ l, l = (it j).l := ⟨_, rfl⟩
      rw [← hke] at e0 hk
      obtain ⟨fa, fcap, rfl, _, hm, _⟩ := hbl
      rw [← hle] at e1 HBL
      have hlm : (l.length : Int) ≤ 9223372036854775807 := by rw [hle]; unfold maxLen at hm; omega
      clear hcs d0 d1 hm hke hle
      by_cases hlong : 200 < l.length
      · have hl1 : (200 : Int) < (l.length : Int) := by omega
        go_wp2_with fail
        refine (awake3_any _).mono ?_
        rintro e w1 ⟨rfl, hk1⟩
        go_wp2
        go_ret
        exact ⟨rfl, HK.out.trans hk1 (fun _ _ h => h)⟩
      · have hl1 : (l.length : Int) ≤ 200 := by omega
        go_wp2_with fail
        refine (RPutF_any k _ l _ _ hk HBL.out (by omega)).mono ?_
        rintro e w1 ⟨v1, rfl, hv1, hk1⟩
        obtain ⟨s, hs⟩ : ∃ s, s = (putF k l).1 := ⟨_, rfl⟩
        obtain ⟨pe, hpe⟩ : ∃ pe, pe = (putF k l).2 := ⟨_, rfl⟩
        have hslen : s.length ≤ 207 := by rw [hs]; have := putF_len k l; omega
        rw [← hs] at hv1
        rw [← hpe]
        obtain ⟨sa, sc, rfl⟩ := own_form hv1.2.1
        have HV1 := Lib.hid hv1
        have HO1 := Lib.hid (HO.out.kept hk1 (fun _ _ h => h))
        have HK1 := Lib.hid (HK.out.trans hk1 (fun _ _ h => h))
        have hs1 := hk1.size
        clear hs hpe hv1 hk1
        go_wp2_with (at_builtin; refine wpList_append_bsl _ rfl (.tmp 46) (.tmp 47) _ rfl 5 i0 _ Try.underlying22 hi0 hz0 hz1 hz2 rfl (.slice ca c.length cc) c.length c rfl HO1.out.2.1 _ _ s rfl HV1.out.bsl (by omega) ?_; intro a' c' w2 hown2 hg2 hat2)
        have R := HO1.out.grow (G := fun k => w.heap.size ≤ k) HV1.out.1 (fun k _ h => h) (fun k h => by omega) hown2 hg2 hat2
        refine ⟨⟨j + 1, c ++ s, by omega, by omega, by go_num, by rw [List.length_append]; omega, R.1, HK1.out.trans R.2 (fun i hi h => by have h2 : w.heap.size ≤ i := h; omega)⟩, by simp [intOf]; omega⟩
    · have hcase : (¬ j < n) ∨ (j < n ∧ 8 ≤ j) := by omega
      have HUr := Lib.hid (HU.out.kept HK.out (fun _ _ h => h))
      clear hlt
      rcases hcase with h1 | ⟨h1, h2⟩
      all_goals
        go_wp2_with fail
        refine (Cut_any _ l0 100 _ _ HUr.out (by omega)).mono ?_
        rintro e w1 ⟨x, rfl, hx, rfl⟩
        obtain ⟨bh, hbh⟩ : ∃ m, m = l0.take 100 := ⟨_, rfl⟩
        have hbl : bh.length ≤ 100 := by rw [hbh, List.length_take]; omega
        rw [← hbh] at hx
        have HX := Lib.hid hx
        obtain ⟨xa, xc, rfl, _⟩ := hx
        clear hbh
        go_wp2_with (at_builtin; refine wpList_append_bsl _ rfl (.tmp 49) (.tmp 51) _ rfl 5 i0 _ Try.underlying22 hi0 hz0 hz1 hz2 rfl (.slice ca c.length cc) c.length c rfl HO.out.2.1 _ _ bh rfl HX.out (by omega) ?_; intro a' c' w2 hown2 hg2 hat2)
        have R := HO.out.grow (G := fun k => w.heap.size ≤ k) HX.out.isB (fun k _ h => h) (fun k h => by omega) hown2 hg2 hat2
        obtain ⟨bs, hbs⟩ : ∃ bs, bs = c ++ bh := ⟨_, rfl⟩
        have hbsl : bs.length ≤ 2000 := by rw [hbs, List.length_append]; omega
        have hbe : c.length + bh.length = bs.length := by rw [hbs, List.length_append]
        rw [← hbs, hbe] at R
        rw [hbe]
        have HO2 := Lib.hid (R.1.bsl.mono (G := fun k => w.heap.size ≤ k ∧ k < w2.heap.size) (fun k hk h => ⟨h, hk⟩))
        have HK2 := Lib.hid (HK.out.trans R.2 (fun i hi h => by have h2 : w.heap.size ≤ i := h; omega))
        clear R hown2 hg2 hat2 hbs hbe HO HX
        refine (FNew_nil _).mono ?_
        rintro e w3 ⟨g, rfl, hg, ht3, hc3, hk3⟩
        have HT3 := Lib.hid ht3
        have HC3 := Lib.hid hc3
        have HK3 := Lib.hid (HK2.out.trans hk3 (fun _ _ h => h))
        have HO3 := Lib.hid (HO2.out.kept hk3 (fun _ _ h => h))
        have hgl := hc3.lt
        have hz2 := HK2.out.size
        clear ht3 hc3 hk3
        go_wp2_with fail
        refine (FAll_any g w2.heap.size false 0 0 _ bs _ _ HC3.out HT3.out HO3.out (fun k h => ⟨by omega, by omega, by omega⟩) (by omega) (by omega) (by omega) (by omega) (by omega) (by omega)).mono ?_
        rintro e w4 ⟨v4, k, er, rfl, hend, hf4, hc4, ht4, hk4⟩
        have HK4 := Lib.hid (HK3.out.trans hk4 (fun i hi h => by rcases h with h | h <;> omega))
        have HO4 := Lib.hid (HO3.out.kept hk4 (fun k h1 h2 => by rcases h2 with h2 | h2 <;> omega))
        have HEND := Lib.hid hend
        have hlen := allS_len bs k
        have hkle := hend.1.le
        obtain ⟨xa4, xc4, rfl⟩ := hf4.form
        obtain ⟨fs, hfs⟩ : ∃ fs, fs = (allS bs k).2 := ⟨_, rfl⟩
        obtain ⟨at4, hat4⟩ : ∃ a, a = (allS bs k).1 := ⟨_, rfl⟩
        rw [← hat4] at hkle ⊢
        rw [← hfs] at hf4 hlen ⊢
        have HFS := Lib.hid hfs
        have HAT := Lib.hid hat4
        have HF4 := Lib.hid hf4
        have HC4 := Lib.hid hc4
        have HLEN := Lib.hid hlen
        have hz4 := hk4.size
        clear hend hf4 hc4 ht4 hk4 hfs hat4 hlen
        go_wp2_with fail
        refine (RAll_any _ bs _ _ HO4.out (fun k h => by omega) (by omega)).mono ?_
        rintro e w5 ⟨v5, k5, er5, rfl, hend5, hf5, hk5⟩
        obtain ⟨hke, hee⟩ := EndS.uniq hend5 HEND.out
        subst hke
        subst hee
        rw [← HFS.out] at hf5
        rw [← HAT.out]
        obtain ⟨ya5, yc5, rfl⟩ := hf5.form
        have HF5 := Lib.hid hf5
        have HF45 := Lib.hid (HF4.out.kept hk5 (fun _ _ h => h) (fun _ _ h => h))
        have HC5 := Lib.hid (HC4.out.kept hk5 (fun h => h))
        have HK5 := Lib.hid (HK4.out.trans hk5 (fun _ _ h => h))
        have hfl : (fs.length : Int) ≤ 2000 := by have := HLEN.out; omega
        clear hend5 hf5 hk5
        go_wp2_with fail
        have HCN := Lib.hid (show CodecAt w5 g w2.heap.size (fs.length : Int) (badN er5 0) by
          have h := HC5.out
          rw [show (0 : Int) + (k5 : Int) = (fs.length : Int) by rw [HLEN.out]; omega] at h
          exact h)
        have hwu : IntKind.u64.wrap (fs.length : Int) = (fs.length : Int) := IntWalk.u64_in _ (by omega)
        go_loopw [16] (fun i wr2 => ∃ q : Nat, q ≤ fs.length ∧ i = .int .i64 q ∧ Kept NoB w5 wr2) (fun i _ => fs.length - (intOf i).toNat)
        case atStart => exact ⟨0, Nat.zero_le _, rfl, Kept.refl _ _⟩
        case round =>
          obtain ⟨q, hq, rfl, hk6⟩ := hrel
          have HK6 := Lib.hid hk6
          by_cases hlt : q < fs.length
          · obtain ⟨gx, cx, f, bx, e1, hf, x0, x1, hbx⟩ := (HF45.out.kept hk6 (fun _ _ h => h) (fun _ _ h => h)).at_ hlt
            obtain ⟨gy, cy, f', by', e2, hf', y0, y1, hby⟩ := (HF5.out.kept hk6 (fun _ _ h => h) (fun _ _ h => h)).at_ hlt
            rw [hf] at hf'
            injection hf' with hf'
            subst hf'
            simp only [Value.slice.injEq, true_and] at e1 e2
            obtain ⟨rfl, rfl⟩ := e1
            obtain ⟨rfl, rfl⟩ := e2
            have HBX := Lib.hid hbx
            have HBY := Lib.hid hby
            obtain ⟨bxa, bxc, rfl, _⟩ := hbx
            obtain ⟨bya, byc, rfl, _⟩ := hby
            have hq0 : (0 : Int) ≤ (q : Int) := by omega
            have hq1 : (q : Int) < (fs.length : Int) := by omega
            obtain ⟨fk, fb, fn, fe⟩ := f
            clear hf hk6
            simp only at x0 x1 y0 y1 HBX HBY
            go_wp2_with fail
            go_region_held3 (fun w' => w'.cell? ⟨gx, q * 2, none⟩ = some (.int .u8 fk) ∧ w'.cell? ⟨gx, q * 2 + 1, none⟩ = some (.slice bxa fb.length bxc) ∧ w'.cell? ⟨gy, q * 2, none⟩ = some (.int .u8 fk) ∧ w'.cell? ⟨gy, q * 2 + 1, none⟩ = some (.slice bya fb.length byc))
              (first
                | exact ⟨cell_drew x0, cell_drew x1, cell_drew y0, cell_drew y1⟩
                | exact ⟨hk7.cell (p := ⟨gx, q * 2, none⟩) (fun h => h) (cell_drew x0), hk7.cell (p := ⟨gx, q * 2 + 1, none⟩) (fun h => h) (cell_drew x1), hk7.cell (p := ⟨gy, q * 2, none⟩) (fun h => h) (cell_drew y0), hk7.cell (p := ⟨gy, q * 2 + 1, none⟩) (fun h => h) (cell_drew y1)⟩
                | go_keep)
              ((go_at_call 49; refine (like_any fk fk _ _ fb fb _ _ _ (by exact HBX.out.kept (S := NoB) (Kept.refl _ _).drew (fun _ _ h => h)) (by exact HBY.out.kept (S := NoB) (Kept.refl _ _).drew (fun _ _ h => h))).mono ?_; rintro e w7 ⟨rfl, hk7⟩; rw [decide_eq_true (rfl : fk = fk), decide_eq_true (rfl : fb = fb)]))
            all_goals go_wp2
            all_goals exact ⟨⟨q + 1, by omega, by go_num, HK6.out.drew.trans hk7 (fun _ _ h => h)⟩, by simp [intOf]; omega⟩
          · have HCK := Lib.hid (HCN.out.kept hk6 (fun h => h))
            have HKE := Lib.hid (HK5.out.trans hk6 (fun _ _ h => h))
            have hbn : 0 ≤ badN er5 0 ∧ badN er5 0 < 1000000000 := by unfold badN; split <;> omega
            clear hk6
            by_cases he : er5 = 0
            · have hb : (er5 != 0) = false := by rw [he]; rfl
              have hbv : badN er5 0 = 0 := if_pos he
              rw [hbv] at HCK hbn
              clear he hbv
              go_wp2_with fail
              refine (Counts_any g w2.heap.size fs.length 0 _ HCK.out (by omega) (by omega) (by omega) (by omega)).mono ?_
              rintro e w8 ⟨rfl, hk8⟩
              go_wp2_with fail
              refine (awake3_any _).mono ?_
              rintro e w9 ⟨rfl, hk9⟩
              go_wp2
              go_ret
              exact ⟨rfl, (HKE.out.trans hk8 (fun _ _ h => h)).trans hk9 (fun _ _ h => h)⟩
            · have hb : (er5 != 0) = true := by simpa using he
              have hbv : badN er5 0 = 1 := if_neg he
              rw [hbv] at HCK hbn
              clear he hbv
              go_wp2_with fail
              refine (Counts_any g w2.heap.size fs.length 1 _ HCK.out (by omega) (by omega) (by omega) (by omega)).mono ?_
              rintro e w8 ⟨rfl, hk8⟩
              go_wp2_with fail
              refine (awake3_any _).mono ?_
              rintro e w9 ⟨rfl, hk9⟩
              go_wp2
              go_ret
              exact ⟨rfl, (HKE.out.trans hk8 (fun _ _ h => h)).trans hk9 (fun _ _ h => h)⟩
end Go.Proofs.Ytpcacndbagiajaa
