/-
  The walk of catenarylaw01.FixBack: what is put is read as it was, to the end.
-/
import Derived.Test.YtnkkbajlmpccmaaBackL
namespace Go.Proofs.Ytnkkbajlmpccmaa
open Go.RowKit

def Back1 (w : World) (g n : Nat) (it : Nat → Itm) (nn i : Value) (wr : World) : Prop :=
  ∃ (j : Nat) (F : Nat → Prop), j ≤ n ∧ j ≤ 30 ∧ nn = .int .i64 j ∧ i = .int .i64 j ∧ OutAt wr F g ⟨cat it j, 5000, 0⟩ ∧ (∀ k, F k → w.heap.size ≤ k ∧ k < wr.heap.size) ∧ (∀ k, k < j → (it k).err = 0) ∧ Kept NoB w wr
def Back2 (w : World) (gi m : Nat) (F : Nat → Prop) (it : Nat → Itm) (i : Value) (wr : World) : Prop :=
  ∃ (j : Nat) (r : List Int), j ≤ m ∧ i = .int .i64 j ∧ cat it m = cat it j ++ r ∧ InAt wr F gi ⟨r, 0⟩ ∧ Kept NoB w wr

set_option maxRecDepth 100000 in
set_option maxHeartbeats 1000000 in
theorem FixBack_any (u : Value) (n : Nat) (it : Nat → Itm) (w : World) (hz : ItsAt w u n it) :
    Calls Try.prog 5 #[u] w fun e w' => e = .returned (.bool true) ∧ Kept NoB w w' := by
  obtain ⟨ua, ucap, rfl, hn, hit⟩ := hz
  have hn2 : (n : Int) ≤ 9223372036854775807 := by omega
  go_enter Try.func5, Try.ntmps5
  go_wp2_with fail
  refine (New_any 5000 _ (by omega)).mono ?_
  rintro e w1 ⟨rfl, hO1, hk1⟩
  rw [show max (5000 : Int) 0 = 5000 from rfl] at hO1
  have HO1 := Lib.hid hO1
  have HK1 := Lib.hid hk1
  obtain ⟨g, hg⟩ : ∃ g, g = w.heap.size := ⟨_, rfl⟩
  rw [← hg]
  have HG := Lib.hid hg
  clear hO1 hk1 hg
  go_wp2_with fail
  go_loopw [4, 5] (Back1 w g n it) (fun _ i _ => n - (intOf i).toNat)
  case atStart =>
    refine ⟨0, fun k => w.heap.size ≤ k ∧ k < w1.heap.size, Nat.zero_le _, by omega, rfl, rfl, ?_, fun _ h => h, fun _ h => absurd h (by omega), HK1.out⟩
    have := HO1.out.mono (G := fun k => w.heap.size ≤ k ∧ k < w1.heap.size) (fun k h1 h2 => ⟨h2, h1⟩)
    rw [HG.out]
    exact this
  case round =>
    obtain ⟨j, F, hj, hj30, rfl, rfl, hO, hF, herr, hk⟩ := hrel
    have HO := Lib.hid hO
    have HK := Lib.hid hk
    have HF := Lib.hid hF
    have HERR := Lib.hid herr
    have hcat := cat_len it j
    have hgw : g < wr.heap.size := by obtain ⟨_, _, _, _, _, _, _, v, hv, _⟩ := hO; exact heap_lt hv
    clear hO hF herr
    have hcase : (¬ j < n) ∨ (j < n ∧ 30 ≤ j) ∨ (j < n ∧ j < 30 ∧ (it j).err ≠ 0) ∨ (j < n ∧ j < 30 ∧ (it j).err = 0) := by omega
    have hcell : j < n → ∃ b o bv, ua = some ⟨b, o, none⟩ ∧ b < w.heap.size ∧ wr.cell? ⟨b, o + j * 4, none⟩ = some (.int .i64 (it j).kind) ∧ wr.cell? ⟨b, o + j * 4 + 1, none⟩ = some (.int .u64 (it j).n) ∧
        wr.cell? ⟨b, o + j * 4 + 2, none⟩ = some (.int .i64 (it j).width) ∧ wr.cell? ⟨b, o + j * 4 + 3, none⟩ = some bv ∧ BSl wr (fun k => k < w.heap.size) bv (it j).b ∧ Hid ((it j).n < 18446744073709551616) := fun hlt => by
      obtain ⟨b, o, hua, hb, hcs⟩ := hit (by omega)
      obtain ⟨bv, d0, d1, d2, d3, hbv, h64⟩ := hcs j hlt
      exact ⟨b, o, bv, hua, hb, hk.cell (p := ⟨b, o + j * 4, none⟩) (fun h => h) d0, hk.cell (p := ⟨b, o + j * 4 + 1, none⟩) (fun h => h) d1, hk.cell (p := ⟨b, o + j * 4 + 2, none⟩) (fun h => h) d2, hk.cell (p := ⟨b, o + j * 4 + 3, none⟩) (fun h => h) d3, hbv.kept hk (fun _ _ h => h), h64⟩
    have HIT := Lib.hid hit
    clear hk hit
    rcases hcase with hj1 | ⟨hj1, hj2⟩ | ⟨hj1, hj2, hbad⟩ | ⟨hj1, hj2, hgood⟩
    · clear hcell
      have HOt := HO
      have HKt := HK
      go_wp2_with fail
      refine (Done_any _ _ _ _ HOt.out (by show (cat it j).length ≤ 1000000; omega)).mono ?_
      rintro e w5 ⟨cv, rfl, hcv, hk5⟩
      simp only at hcv ⊢
      have HCV := Lib.hid hcv
      obtain ⟨ca, cc, rfl, _⟩ := hcv
      have HK5 := Lib.hid (HKt.out.trans hk5 (fun _ _ h => h))
      clear hk5
      go_wp2_with fail
      refine (Of_any _ (cat it j) _ _ HCV.out (by omega)).mono ?_
      rintro e w6 ⟨gi, rfl, hgi, hgil, hI6, hk6⟩
      have HI6 := Lib.hid hI6
      have HK6 := Lib.hid (HK5.out.trans hk6 (fun _ _ h => h))
      have hz5 := HK5.out.size
      clear hI6 hk6
      go_wp2_with fail
      go_loopw [11] (Back2 w gi j (fun k => w5.heap.size ≤ k ∧ k < gi) it) (fun i _ => j - (intOf i).toNat)
      case atStart => exact ⟨0, cat it j, Nat.zero_le _, rfl, by simp [cat], HI6.out, HK6.out⟩
      case round =>
        obtain ⟨q, r, hq, rfl, hcr, hI, hk⟩ := hrel
        have HI := Lib.hid hI
        have HK2 := Lib.hid hk
        have HCR := Lib.hid hcr
        clear hI hcr
        by_cases hlt : q < j
        · obtain ⟨b, o, hua, hb, hcs⟩ := HIT.out (by omega)
          obtain ⟨bv, d0, d1, d2, d3, hbv, h64⟩ := hcs q (by omega)
          have e0 := hk.cell (p := ⟨b, o + q * 4, none⟩) (fun h => h) d0
          have e1 := hk.cell (p := ⟨b, o + q * 4 + 1, none⟩) (fun h => h) d1
          have e2 := hk.cell (p := ⟨b, o + q * 4 + 2, none⟩) (fun h => h) d2
          have e3 := hk.cell (p := ⟨b, o + q * 4 + 3, none⟩) (fun h => h) d3
          have HBV := Lib.hid (hbv.kept hk (fun _ _ h => h))
          have hbg : b ≠ gi := by omega
          have hq0 : (0 : Int) ≤ (q : Int) := by omega
          have hqn : (q : Int) < (n : Int) := by omega
          obtain ⟨r', hr'⟩ := cat_split it q j hlt
          have hrr : r = (it q).bytes ++ r' := by
            have := HCR.out
            rw [hr'] at this
            exact (List.append_cancel_left this).symm
          have hnext : Hid (cat it j = cat it (q + 1) ++ r') := by
            show _ = _
            rw [hr', cat, List.append_assoc]
          have he0 := HERR.out q hlt
          obtain ⟨ba, bc, rfl, hbc, _⟩ := hbv
          subst hrr
          cases hua
          clear hk hcs d0 d1 d2 d3 hr'
          generalize hX : it q = x at *
          have HX := Lib.hid hX
          obtain ⟨kind, num1, width, bl⟩ := x
          simp only at e0 e1 e2 e3 HBV h64
          clear hX
          obtain ⟨l, hl⟩ : ∃ l, l = bl.take 60 := ⟨_, rfl⟩
          have hl60 : l.length ≤ 60 := by rw [hl, List.length_take]; omega
          have HL := Lib.hid hl
          clear hl
          go_wp2_with fail
          refine (Cut_any _ bl 60 _ _ HBV.out (by omega)).mono ?_
          rintro e w7 ⟨xv, rfl, hxv, rfl⟩
          rw [← HL.out] at hxv
          have HXV := Lib.hid hxv
          obtain ⟨xa, xc, rfl, _⟩ := hxv
          by_cases h0 : kind = 0
          · subst h0
            have hpe : putErr num1 width = 0 := he0
            obtain ⟨kk, rfl, hk1, hk8, hlt2, hpb⟩ := putErr_zero _ _ hpe
            have hget := get_back num1 kk r' hk1 hk8 hlt2
            have hbytes : (⟨0, num1, (kk : Int), bl⟩ : Itm).bytes = be num1 kk := hpb
            rw [hbytes] at HI
            have HGet := Lib.hid (fun F w h => Get_any gi ⟨be num1 kk ++ r', 0⟩ kk F w h)
            rw [hget] at HGet
            simp only at HGet
            have hne : ((num1 : Int) != (num1 : Int)) = false := by simp
            clear hpe hget hbytes hpb he0 hlt2
            go_wp2_with fail
            go_region_held3 (fun w' => w'.cell? ⟨b, o + q * 4 + 1, none⟩ = some (.int .u64 num1) ∧ w'.cell? ⟨b, o + q * 4 + 2, none⟩ = some (.int .i64 kk))
              (first | go_keep | (go_split_ands; exact ⟨hk8'.cell (p := ⟨b, o + q * 4 + 1, none⟩) (fun h => hbg h) (by assumption), hk8'.cell (p := ⟨b, o + q * 4 + 2, none⟩) (fun h => hbg h) (by assumption)⟩))
              ((go_at_call 21; refine (HGet.out _ _ (by exact HI.out.drewN 1)).mono ?_; rintro e w8 ⟨rfl, hI8, hk8'⟩))
            go_wp2
            have hk9 : Kept (Only gi) wr w8 := ⟨hk8'.os, hk8'.tape, hk8'.output, hk8'.size, hk8'.block⟩
            exact ⟨⟨q + 1, r', by omega, by go_num, hnext.out, hI8, HK2.out.trans hk9 (fun i hi h => by have e : i = gi := h; omega)⟩, by simp [intOf]; omega⟩
          · have h0b : (kind == 0) = false := by simpa using h0
            by_cases h1 : kind = 1
            · subst h1
              have hbytes : (⟨1, num1, width, bl⟩ : Itm).bytes = l := by rw [HL.out]; rfl
              rw [hbytes] at HI
              have hraw := raw_back l r' l.length rfl
              have hle : (l.length : Int) ≤ 9223372036854775807 := by omega
              have HRaw := Lib.hid (fun F w h => InRaw_any gi ⟨l ++ r', 0⟩ l.length F w h hle)
              rw [hraw] at HRaw
              simp only at HRaw
              clear h0 h0b hraw hbytes he0 hle
              go_wp2_with fail
              refine (HRaw.out _ _ HI.out).mono ?_
              rintro e w8 ⟨rv, rfl, hI8, hrv, hk8⟩
              have HRV := Lib.hid hrv
              have HXV8 := Lib.hid (HXV.out.kept hk8 (fun k hk h => by have e : k = gi := h; omega))
              have HI8 := Lib.hid hI8
              have HK8 := Lib.hid (HK2.out.trans hk8 (fun i hi h => by have e : i = gi := h; omega))
              clear hk8 hI8
              obtain ⟨ra, rc, rfl, _⟩ := hrv
              go_wp2_with fail
              refine (Same_any _ _ l l _ _ _ HRV.out HXV8.out).mono ?_
              rintro e w9 ⟨rfl, hk9⟩
              rw [decide_eq_true rfl]
              have HI9 := Lib.hid (HI8.out.kept hk9 (fun _ _ h => h) (fun h => h))
              have HK9 := Lib.hid (HK8.out.trans hk9 (fun _ _ h => h))
              clear hk9
              go_wp2
              exact ⟨⟨q + 1, r', by omega, by go_num, hnext.out, HI9.out, HK9.out⟩, by simp [intOf]; omega⟩
            · have h1b : (kind == 1) = false := by simpa using h1
              by_cases h2 : kind = 2
              · subst h2
                have hbytes : (⟨2, num1, width, bl⟩ : Itm).bytes = be l.length 2 ++ l := by rw [HL.out]; rfl
                rw [hbytes] at HI
                have htext := text_back l r' hl60
                have HText := Lib.hid (fun F w h => InText_any gi ⟨be l.length 2 ++ l ++ r', 0⟩ 60 F w h)
                rw [htext] at HText
                simp only at HText
                clear h0 h0b h1 h1b htext hbytes he0
                go_wp2_with fail
                refine (HText.out _ _ HI.out).mono ?_
                rintro e w8 ⟨rv, rfl, hI8, hrv, hk8⟩
                have HRV := Lib.hid hrv
                have HXV8 := Lib.hid (HXV.out.kept hk8 (fun k hk h => by have e : k = gi := h; omega))
                have HI8 := Lib.hid hI8
                have HK8 := Lib.hid (HK2.out.trans hk8 (fun i hi h => by have e : i = gi := h; omega))
                clear hk8 hI8
                obtain ⟨ra, rc, rfl, _⟩ := hrv
                go_wp2_with fail
                refine (Same_any _ _ l l _ _ _ HRV.out HXV8.out).mono ?_
                rintro e w9 ⟨rfl, hk9⟩
                rw [decide_eq_true rfl]
                have HI9 := Lib.hid (HI8.out.kept hk9 (fun _ _ h => h) (fun h => h))
                have HK9 := Lib.hid (HK8.out.trans hk9 (fun _ _ h => h))
                clear hk9
                go_wp2
                exact ⟨⟨q + 1, r', by omega, by go_num, hnext.out, HI9.out, HK9.out⟩, by simp [intOf]; omega⟩
              · have h2b : (kind == 2) = false := by simpa using h2
                have hbytes : (⟨kind, num1, width, bl⟩ : Itm).bytes = [((num1 % 2 : Nat) : Int)] := by
                  unfold Itm.bytes
                  rw [if_neg h0, if_neg h1, if_neg h2]
                  by_cases h : num1 % 2 = 1
                  · rw [if_pos h, h]; rfl
                  · rw [if_neg h, show num1 % 2 = 0 by omega]; rfl
                rw [hbytes] at HI
                have hbool := bool_back (num1 % 2) r' (by omega)
                have HBool := Lib.hid (fun F w h => InBool_any gi ⟨((num1 % 2 : Nat) : Int) :: r', 0⟩ F w h)
                rw [hbool] at HBool
                simp only at HBool
                obtain ⟨Q, hQ⟩ : ∃ Q : Int, Q = ((num1 % 2 : Nat) : Int) := ⟨_, rfl⟩
                have hm1 : (num1 : Int) % 2 = Q := by rw [hQ]; omega
                have hm2 : (num1 : Int).tmod 2 = Q := by rw [← hm1]; exact Int.tmod_eq_emod_of_nonneg (by omega)
                rw [← hQ] at HBool HI
                have HI2 := Lib.hid (show InAt wr (fun k => w5.heap.size ≤ k ∧ k < gi) gi ⟨Q :: r', 0⟩ from HI.out)
                have HQ := Lib.hid hQ
                clear h0 h1 h2 hbool hbytes he0 hQ
                go_wp2_with fail
                go_region_held3 (fun w' => w'.cell? ⟨b, o + q * 4 + 1, none⟩ = some (.int .u64 num1))
                  (first | go_keep | (exact hk8'.cell (p := ⟨b, o + q * 4 + 1, none⟩) (fun h => hbg h) (by assumption)))
                  ((go_at_call 29; refine (HBool.out _ _ (by exact HI2.out.drewN 1)).mono ?_; rintro e w8 ⟨rfl, hI8, hk8'⟩))
                go_wp2
                have hk9 : Kept (Only gi) wr w8 := ⟨hk8'.os, hk8'.tape, hk8'.output, hk8'.size, hk8'.block⟩
                exact ⟨⟨q + 1, r', by omega, by go_num, hnext.out, hI8, HK2.out.trans hk9 (fun i hi h => by have e : i = gi := h; omega)⟩, by simp [intOf]; omega⟩
        · have hqj : q = j := by omega
          subst hqj
          have hr0 : r = [] := by
            have := HCR.out
            have h2 : cat it q ++ [] = cat it q ++ r := by rw [List.append_nil]; exact this
            exact (List.append_cancel_left h2).symm
          subst hr0
          clear hk
          go_wp2_with fail
          refine (InDone_any gi _ _ _ HI.out).mono ?_
          rintro e w7 ⟨rfl, rfl⟩
          rw [show (⟨[], 0⟩ : ISt).done = 0 from rfl]
          go_wp2_with fail
          refine (awake_any _).mono ?_
          rintro e w8 ⟨rfl, hk8⟩
          go_wp2
          go_ret
          exact ⟨rfl, HK2.out.trans hk8 (fun _ _ h => h)⟩
    · clear hcell
      have HOt := HO
      have HKt := HK
      go_wp2_with fail
      refine (Done_any _ _ _ _ HOt.out (by show (cat it j).length ≤ 1000000; omega)).mono ?_
      rintro e w5 ⟨cv, rfl, hcv, hk5⟩
      simp only at hcv ⊢
      have HCV := Lib.hid hcv
      obtain ⟨ca, cc, rfl, _⟩ := hcv
      have HK5 := Lib.hid (HKt.out.trans hk5 (fun _ _ h => h))
      clear hk5
      go_wp2_with fail
      refine (Of_any _ (cat it j) _ _ HCV.out (by omega)).mono ?_
      rintro e w6 ⟨gi, rfl, hgi, hgil, hI6, hk6⟩
      have HI6 := Lib.hid hI6
      have HK6 := Lib.hid (HK5.out.trans hk6 (fun _ _ h => h))
      have hz5 := HK5.out.size
      clear hI6 hk6
      go_wp2_with fail
      go_loopw [11] (Back2 w gi j (fun k => w5.heap.size ≤ k ∧ k < gi) it) (fun i _ => j - (intOf i).toNat)
      case atStart => exact ⟨0, cat it j, Nat.zero_le _, rfl, by simp [cat], HI6.out, HK6.out⟩
      case round =>
        obtain ⟨q, r, hq, rfl, hcr, hI, hk⟩ := hrel
        have HI := Lib.hid hI
        have HK2 := Lib.hid hk
        have HCR := Lib.hid hcr
        clear hI hcr
        by_cases hlt : q < j
        · obtain ⟨b, o, hua, hb, hcs⟩ := HIT.out (by omega)
          obtain ⟨bv, d0, d1, d2, d3, hbv, h64⟩ := hcs q (by omega)
          have e0 := hk.cell (p := ⟨b, o + q * 4, none⟩) (fun h => h) d0
          have e1 := hk.cell (p := ⟨b, o + q * 4 + 1, none⟩) (fun h => h) d1
          have e2 := hk.cell (p := ⟨b, o + q * 4 + 2, none⟩) (fun h => h) d2
          have e3 := hk.cell (p := ⟨b, o + q * 4 + 3, none⟩) (fun h => h) d3
          have HBV := Lib.hid (hbv.kept hk (fun _ _ h => h))
          have hbg : b ≠ gi := by omega
          have hq0 : (0 : Int) ≤ (q : Int) := by omega
          have hqn : (q : Int) < (n : Int) := by omega
          obtain ⟨r', hr'⟩ := cat_split it q j hlt
          have hrr : r = (it q).bytes ++ r' := by
            have := HCR.out
            rw [hr'] at this
            exact (List.append_cancel_left this).symm
          have hnext : Hid (cat it j = cat it (q + 1) ++ r') := by
            show _ = _
            rw [hr', cat, List.append_assoc]
          have he0 := HERR.out q hlt
          obtain ⟨ba, bc, rfl, hbc, _⟩ := hbv
          subst hrr
          cases hua
          clear hk hcs d0 d1 d2 d3 hr'
          generalize hX : it q = x at *
          have HX := Lib.hid hX
          obtain ⟨kind, num1, width, bl⟩ := x
          simp only at e0 e1 e2 e3 HBV h64
          clear hX
          obtain ⟨l, hl⟩ : ∃ l, l = bl.take 60 := ⟨_, rfl⟩
          have hl60 : l.length ≤ 60 := by rw [hl, List.length_take]; omega
          have HL := Lib.hid hl
          clear hl
          go_wp2_with fail
          refine (Cut_any _ bl 60 _ _ HBV.out (by omega)).mono ?_
          rintro e w7 ⟨xv, rfl, hxv, rfl⟩
          rw [← HL.out] at hxv
          have HXV := Lib.hid hxv
          obtain ⟨xa, xc, rfl, _⟩ := hxv
          by_cases h0 : kind = 0
          · subst h0
            have hpe : putErr num1 width = 0 := he0
            obtain ⟨kk, rfl, hk1, hk8, hlt2, hpb⟩ := putErr_zero _ _ hpe
            have hget := get_back num1 kk r' hk1 hk8 hlt2
            have hbytes : (⟨0, num1, (kk : Int), bl⟩ : Itm).bytes = be num1 kk := hpb
            rw [hbytes] at HI
            have HGet := Lib.hid (fun F w h => Get_any gi ⟨be num1 kk ++ r', 0⟩ kk F w h)
            rw [hget] at HGet
            simp only at HGet
            have hne : ((num1 : Int) != (num1 : Int)) = false := by simp
            clear hpe hget hbytes hpb he0 hlt2
            go_wp2_with fail
            go_region_held3 (fun w' => w'.cell? ⟨b, o + q * 4 + 1, none⟩ = some (.int .u64 num1) ∧ w'.cell? ⟨b, o + q * 4 + 2, none⟩ = some (.int .i64 kk))
              (first | go_keep | (go_split_ands; exact ⟨hk8'.cell (p := ⟨b, o + q * 4 + 1, none⟩) (fun h => hbg h) (by assumption), hk8'.cell (p := ⟨b, o + q * 4 + 2, none⟩) (fun h => hbg h) (by assumption)⟩))
              ((go_at_call 21; refine (HGet.out _ _ (by exact HI.out.drewN 1)).mono ?_; rintro e w8 ⟨rfl, hI8, hk8'⟩))
            go_wp2
            have hk9 : Kept (Only gi) wr w8 := ⟨hk8'.os, hk8'.tape, hk8'.output, hk8'.size, hk8'.block⟩
            exact ⟨⟨q + 1, r', by omega, by go_num, hnext.out, hI8, HK2.out.trans hk9 (fun i hi h => by have e : i = gi := h; omega)⟩, by simp [intOf]; omega⟩
          · have h0b : (kind == 0) = false := by simpa using h0
            by_cases h1 : kind = 1
            · subst h1
              have hbytes : (⟨1, num1, width, bl⟩ : Itm).bytes = l := by rw [HL.out]; rfl
              rw [hbytes] at HI
              have hraw := raw_back l r' l.length rfl
              have hle : (l.length : Int) ≤ 9223372036854775807 := by omega
              have HRaw := Lib.hid (fun F w h => InRaw_any gi ⟨l ++ r', 0⟩ l.length F w h hle)
              rw [hraw] at HRaw
              simp only at HRaw
              clear h0 h0b hraw hbytes he0 hle
              go_wp2_with fail
              refine (HRaw.out _ _ HI.out).mono ?_
              rintro e w8 ⟨rv, rfl, hI8, hrv, hk8⟩
              have HRV := Lib.hid hrv
              have HXV8 := Lib.hid (HXV.out.kept hk8 (fun k hk h => by have e : k = gi := h; omega))
              have HI8 := Lib.hid hI8
              have HK8 := Lib.hid (HK2.out.trans hk8 (fun i hi h => by have e : i = gi := h; omega))
              clear hk8 hI8
              obtain ⟨ra, rc, rfl, _⟩ := hrv
              go_wp2_with fail
              refine (Same_any _ _ l l _ _ _ HRV.out HXV8.out).mono ?_
              rintro e w9 ⟨rfl, hk9⟩
              rw [decide_eq_true rfl]
              have HI9 := Lib.hid (HI8.out.kept hk9 (fun _ _ h => h) (fun h => h))
              have HK9 := Lib.hid (HK8.out.trans hk9 (fun _ _ h => h))
              clear hk9
              go_wp2
              exact ⟨⟨q + 1, r', by omega, by go_num, hnext.out, HI9.out, HK9.out⟩, by simp [intOf]; omega⟩
            · have h1b : (kind == 1) = false := by simpa using h1
              by_cases h2 : kind = 2
              · subst h2
                have hbytes : (⟨2, num1, width, bl⟩ : Itm).bytes = be l.length 2 ++ l := by rw [HL.out]; rfl
                rw [hbytes] at HI
                have htext := text_back l r' hl60
                have HText := Lib.hid (fun F w h => InText_any gi ⟨be l.length 2 ++ l ++ r', 0⟩ 60 F w h)
                rw [htext] at HText
                simp only at HText
                clear h0 h0b h1 h1b htext hbytes he0
                go_wp2_with fail
                refine (HText.out _ _ HI.out).mono ?_
                rintro e w8 ⟨rv, rfl, hI8, hrv, hk8⟩
                have HRV := Lib.hid hrv
                have HXV8 := Lib.hid (HXV.out.kept hk8 (fun k hk h => by have e : k = gi := h; omega))
                have HI8 := Lib.hid hI8
                have HK8 := Lib.hid (HK2.out.trans hk8 (fun i hi h => by have e : i = gi := h; omega))
                clear hk8 hI8
                obtain ⟨ra, rc, rfl, _⟩ := hrv
                go_wp2_with fail
                refine (Same_any _ _ l l _ _ _ HRV.out HXV8.out).mono ?_
                rintro e w9 ⟨rfl, hk9⟩
                rw [decide_eq_true rfl]
                have HI9 := Lib.hid (HI8.out.kept hk9 (fun _ _ h => h) (fun h => h))
                have HK9 := Lib.hid (HK8.out.trans hk9 (fun _ _ h => h))
                clear hk9
                go_wp2
                exact ⟨⟨q + 1, r', by omega, by go_num, hnext.out, HI9.out, HK9.out⟩, by simp [intOf]; omega⟩
              · have h2b : (kind == 2) = false := by simpa using h2
                have hbytes : (⟨kind, num1, width, bl⟩ : Itm).bytes = [((num1 % 2 : Nat) : Int)] := by
                  unfold Itm.bytes
                  rw [if_neg h0, if_neg h1, if_neg h2]
                  by_cases h : num1 % 2 = 1
                  · rw [if_pos h, h]; rfl
                  · rw [if_neg h, show num1 % 2 = 0 by omega]; rfl
                rw [hbytes] at HI
                have hbool := bool_back (num1 % 2) r' (by omega)
                have HBool := Lib.hid (fun F w h => InBool_any gi ⟨((num1 % 2 : Nat) : Int) :: r', 0⟩ F w h)
                rw [hbool] at HBool
                simp only at HBool
                obtain ⟨Q, hQ⟩ : ∃ Q : Int, Q = ((num1 % 2 : Nat) : Int) := ⟨_, rfl⟩
                have hm1 : (num1 : Int) % 2 = Q := by rw [hQ]; omega
                have hm2 : (num1 : Int).tmod 2 = Q := by rw [← hm1]; exact Int.tmod_eq_emod_of_nonneg (by omega)
                rw [← hQ] at HBool HI
                have HI2 := Lib.hid (show InAt wr (fun k => w5.heap.size ≤ k ∧ k < gi) gi ⟨Q :: r', 0⟩ from HI.out)
                have HQ := Lib.hid hQ
                clear h0 h1 h2 hbool hbytes he0 hQ
                go_wp2_with fail
                go_region_held3 (fun w' => w'.cell? ⟨b, o + q * 4 + 1, none⟩ = some (.int .u64 num1))
                  (first | go_keep | (exact hk8'.cell (p := ⟨b, o + q * 4 + 1, none⟩) (fun h => hbg h) (by assumption)))
                  ((go_at_call 29; refine (HBool.out _ _ (by exact HI2.out.drewN 1)).mono ?_; rintro e w8 ⟨rfl, hI8, hk8'⟩))
                go_wp2
                have hk9 : Kept (Only gi) wr w8 := ⟨hk8'.os, hk8'.tape, hk8'.output, hk8'.size, hk8'.block⟩
                exact ⟨⟨q + 1, r', by omega, by go_num, hnext.out, hI8, HK2.out.trans hk9 (fun i hi h => by have e : i = gi := h; omega)⟩, by simp [intOf]; omega⟩
        · have hqj : q = j := by omega
          subst hqj
          have hr0 : r = [] := by
            have := HCR.out
            have h2 : cat it q ++ [] = cat it q ++ r := by rw [List.append_nil]; exact this
            exact (List.append_cancel_left h2).symm
          subst hr0
          clear hk
          go_wp2_with fail
          refine (InDone_any gi _ _ _ HI.out).mono ?_
          rintro e w7 ⟨rfl, rfl⟩
          rw [show (⟨[], 0⟩ : ISt).done = 0 from rfl]
          go_wp2_with fail
          refine (awake_any _).mono ?_
          rintro e w8 ⟨rfl, hk8⟩
          go_wp2
          go_ret
          exact ⟨rfl, HK2.out.trans hk8 (fun _ _ h => h)⟩
    · obtain ⟨b, o, bv, rfl, hb, e0, e1, e2, e3, hbv, h64⟩ := hcell hj1
      clear hcell
      have hkind : (it j).kind = 0 := by
        rcases Int.lt_trichotomy (it j).kind 0 with h | h | h
        · exact absurd (if_neg (by omega) : (it j).err = 0) hbad
        · exact h
        · exact absurd (if_neg (by omega) : (it j).err = 0) hbad
      have hpe : (it j).err = putErr (it j).n (it j).width := if_pos hkind
      rw [hpe] at hbad
      rw [hkind] at e0
      have hj0 : (0 : Int) ≤ (j : Int) := by omega
      have hjn : (j : Int) < (n : Int) := by omega
      have hbadb : (putErr (it j).n (it j).width != 0) = true := by rw [bne_iff_ne]; exact hbad
      have HPB := Lib.hid (RPut_any (it j).n (it j).width · h64)
      clear hkind hpe hbad e3 hbv
      generalize hX : it j = x at *
      have HX := Lib.hid hX
      clear hX
      generalize putErr x.n x.width = pe at *
      go_wp2_with fail
      go_region_held3 (fun w' => w'.cell? ⟨b, o + j * 4 + 1, none⟩ = some (.int .u64 x.n) ∧ w'.cell? ⟨b, o + j * 4 + 2, none⟩ = some (.int .i64 x.width))
        (first | go_keep | (go_split_ands; exact ⟨hk2.cell (p := ⟨b, o + j * 4 + 1, none⟩) (fun h => h) (by assumption), hk2.cell (p := ⟨b, o + j * 4 + 2, none⟩) (fun h => h) (by assumption)⟩))
        ((go_at_call 34; refine (HPB.out _).mono ?_; rintro e w2 ⟨v2, rfl, hv2, hk2⟩))
      have hk3 : Kept NoB wr w2 := ⟨hk2.os, hk2.tape, hk2.output, hk2.size, hk2.block⟩
      have HOt := Lib.hid (HO.out.kept hk3 (fun _ _ h => h))
      have HKt := Lib.hid (HK.out.trans hk3 (fun _ _ h => h))
      clear hk2 hk3 e0 e1 e2
      go_wp2_with fail
      refine (Done_any _ _ _ _ HOt.out (by show (cat it j).length ≤ 1000000; omega)).mono ?_
      rintro e w5 ⟨cv, rfl, hcv, hk5⟩
      simp only at hcv ⊢
      have HCV := Lib.hid hcv
      obtain ⟨ca, cc, rfl, _⟩ := hcv
      have HK5 := Lib.hid (HKt.out.trans hk5 (fun _ _ h => h))
      clear hk5
      go_wp2_with fail
      refine (Of_any _ (cat it j) _ _ HCV.out (by omega)).mono ?_
      rintro e w6 ⟨gi, rfl, hgi, hgil, hI6, hk6⟩
      have HI6 := Lib.hid hI6
      have HK6 := Lib.hid (HK5.out.trans hk6 (fun _ _ h => h))
      have hz5 := HK5.out.size
      clear hI6 hk6
      go_wp2_with fail
      go_loopw [11] (Back2 w gi j (fun k => w5.heap.size ≤ k ∧ k < gi) it) (fun i _ => j - (intOf i).toNat)
      case atStart => exact ⟨0, cat it j, Nat.zero_le _, rfl, by simp [cat], HI6.out, HK6.out⟩
      case round =>
        obtain ⟨q, r, hq, rfl, hcr, hI, hk⟩ := hrel
        have HI := Lib.hid hI
        have HK2 := Lib.hid hk
        have HCR := Lib.hid hcr
        clear hI hcr
        by_cases hlt : q < j
        · obtain ⟨b, o, hua, hb, hcs⟩ := HIT.out (by omega)
          obtain ⟨bv, d0, d1, d2, d3, hbv, h64⟩ := hcs q (by omega)
          have e0 := hk.cell (p := ⟨b, o + q * 4, none⟩) (fun h => h) d0
          have e1 := hk.cell (p := ⟨b, o + q * 4 + 1, none⟩) (fun h => h) d1
          have e2 := hk.cell (p := ⟨b, o + q * 4 + 2, none⟩) (fun h => h) d2
          have e3 := hk.cell (p := ⟨b, o + q * 4 + 3, none⟩) (fun h => h) d3
          have HBV := Lib.hid (hbv.kept hk (fun _ _ h => h))
          have hbg : b ≠ gi := by omega
          have hq0 : (0 : Int) ≤ (q : Int) := by omega
          have hqn : (q : Int) < (n : Int) := by omega
          obtain ⟨r', hr'⟩ := cat_split it q j hlt
          have hrr : r = (it q).bytes ++ r' := by
            have := HCR.out
            rw [hr'] at this
            exact (List.append_cancel_left this).symm
          have hnext : Hid (cat it j = cat it (q + 1) ++ r') := by
            show _ = _
            rw [hr', cat, List.append_assoc]
          have he0 := HERR.out q hlt
          obtain ⟨ba, bc, rfl, hbc, _⟩ := hbv
          subst hrr
          cases hua
          clear hk hcs d0 d1 d2 d3 hr'
          generalize hX : it q = x at *
          have HX := Lib.hid hX
          obtain ⟨kind, num1, width, bl⟩ := x
          simp only at e0 e1 e2 e3 HBV h64
          clear hX
          obtain ⟨l, hl⟩ : ∃ l, l = bl.take 60 := ⟨_, rfl⟩
          have hl60 : l.length ≤ 60 := by rw [hl, List.length_take]; omega
          have HL := Lib.hid hl
          clear hl
          go_wp2_with fail
          refine (Cut_any _ bl 60 _ _ HBV.out (by omega)).mono ?_
          rintro e w7 ⟨xv, rfl, hxv, rfl⟩
          rw [← HL.out] at hxv
          have HXV := Lib.hid hxv
          obtain ⟨xa, xc, rfl, _⟩ := hxv
          by_cases h0 : kind = 0
          · subst h0
            have hpe : putErr num1 width = 0 := he0
            obtain ⟨kk, rfl, hk1, hk8, hlt2, hpb⟩ := putErr_zero _ _ hpe
            have hget := get_back num1 kk r' hk1 hk8 hlt2
            have hbytes : (⟨0, num1, (kk : Int), bl⟩ : Itm).bytes = be num1 kk := hpb
            rw [hbytes] at HI
            have HGet := Lib.hid (fun F w h => Get_any gi ⟨be num1 kk ++ r', 0⟩ kk F w h)
            rw [hget] at HGet
            simp only at HGet
            have hne : ((num1 : Int) != (num1 : Int)) = false := by simp
            clear hpe hget hbytes hpb he0 hlt2
            go_wp2_with fail
            go_region_held3 (fun w' => w'.cell? ⟨b, o + q * 4 + 1, none⟩ = some (.int .u64 num1) ∧ w'.cell? ⟨b, o + q * 4 + 2, none⟩ = some (.int .i64 kk))
              (first | go_keep | (go_split_ands; exact ⟨hk8'.cell (p := ⟨b, o + q * 4 + 1, none⟩) (fun h => hbg h) (by assumption), hk8'.cell (p := ⟨b, o + q * 4 + 2, none⟩) (fun h => hbg h) (by assumption)⟩))
              ((go_at_call 21; refine (HGet.out _ _ (by exact HI.out.drewN 1)).mono ?_; rintro e w8 ⟨rfl, hI8, hk8'⟩))
            go_wp2
            have hk9 : Kept (Only gi) wr w8 := ⟨hk8'.os, hk8'.tape, hk8'.output, hk8'.size, hk8'.block⟩
            exact ⟨⟨q + 1, r', by omega, by go_num, hnext.out, hI8, HK2.out.trans hk9 (fun i hi h => by have e : i = gi := h; omega)⟩, by simp [intOf]; omega⟩
          · have h0b : (kind == 0) = false := by simpa using h0
            by_cases h1 : kind = 1
            · subst h1
              have hbytes : (⟨1, num1, width, bl⟩ : Itm).bytes = l := by rw [HL.out]; rfl
              rw [hbytes] at HI
              have hraw := raw_back l r' l.length rfl
              have hle : (l.length : Int) ≤ 9223372036854775807 := by omega
              have HRaw := Lib.hid (fun F w h => InRaw_any gi ⟨l ++ r', 0⟩ l.length F w h hle)
              rw [hraw] at HRaw
              simp only at HRaw
              clear h0 h0b hraw hbytes he0 hle
              go_wp2_with fail
              refine (HRaw.out _ _ HI.out).mono ?_
              rintro e w8 ⟨rv, rfl, hI8, hrv, hk8⟩
              have HRV := Lib.hid hrv
              have HXV8 := Lib.hid (HXV.out.kept hk8 (fun k hk h => by have e : k = gi := h; omega))
              have HI8 := Lib.hid hI8
              have HK8 := Lib.hid (HK2.out.trans hk8 (fun i hi h => by have e : i = gi := h; omega))
              clear hk8 hI8
              obtain ⟨ra, rc, rfl, _⟩ := hrv
              go_wp2_with fail
              refine (Same_any _ _ l l _ _ _ HRV.out HXV8.out).mono ?_
              rintro e w9 ⟨rfl, hk9⟩
              rw [decide_eq_true rfl]
              have HI9 := Lib.hid (HI8.out.kept hk9 (fun _ _ h => h) (fun h => h))
              have HK9 := Lib.hid (HK8.out.trans hk9 (fun _ _ h => h))
              clear hk9
              go_wp2
              exact ⟨⟨q + 1, r', by omega, by go_num, hnext.out, HI9.out, HK9.out⟩, by simp [intOf]; omega⟩
            · have h1b : (kind == 1) = false := by simpa using h1
              by_cases h2 : kind = 2
              · subst h2
                have hbytes : (⟨2, num1, width, bl⟩ : Itm).bytes = be l.length 2 ++ l := by rw [HL.out]; rfl
                rw [hbytes] at HI
                have htext := text_back l r' hl60
                have HText := Lib.hid (fun F w h => InText_any gi ⟨be l.length 2 ++ l ++ r', 0⟩ 60 F w h)
                rw [htext] at HText
                simp only at HText
                clear h0 h0b h1 h1b htext hbytes he0
                go_wp2_with fail
                refine (HText.out _ _ HI.out).mono ?_
                rintro e w8 ⟨rv, rfl, hI8, hrv, hk8⟩
                have HRV := Lib.hid hrv
                have HXV8 := Lib.hid (HXV.out.kept hk8 (fun k hk h => by have e : k = gi := h; omega))
                have HI8 := Lib.hid hI8
                have HK8 := Lib.hid (HK2.out.trans hk8 (fun i hi h => by have e : i = gi := h; omega))
                clear hk8 hI8
                obtain ⟨ra, rc, rfl, _⟩ := hrv
                go_wp2_with fail
                refine (Same_any _ _ l l _ _ _ HRV.out HXV8.out).mono ?_
                rintro e w9 ⟨rfl, hk9⟩
                rw [decide_eq_true rfl]
                have HI9 := Lib.hid (HI8.out.kept hk9 (fun _ _ h => h) (fun h => h))
                have HK9 := Lib.hid (HK8.out.trans hk9 (fun _ _ h => h))
                clear hk9
                go_wp2
                exact ⟨⟨q + 1, r', by omega, by go_num, hnext.out, HI9.out, HK9.out⟩, by simp [intOf]; omega⟩
              · have h2b : (kind == 2) = false := by simpa using h2
                have hbytes : (⟨kind, num1, width, bl⟩ : Itm).bytes = [((num1 % 2 : Nat) : Int)] := by
                  unfold Itm.bytes
                  rw [if_neg h0, if_neg h1, if_neg h2]
                  by_cases h : num1 % 2 = 1
                  · rw [if_pos h, h]; rfl
                  · rw [if_neg h, show num1 % 2 = 0 by omega]; rfl
                rw [hbytes] at HI
                have hbool := bool_back (num1 % 2) r' (by omega)
                have HBool := Lib.hid (fun F w h => InBool_any gi ⟨((num1 % 2 : Nat) : Int) :: r', 0⟩ F w h)
                rw [hbool] at HBool
                simp only at HBool
                obtain ⟨Q, hQ⟩ : ∃ Q : Int, Q = ((num1 % 2 : Nat) : Int) := ⟨_, rfl⟩
                have hm1 : (num1 : Int) % 2 = Q := by rw [hQ]; omega
                have hm2 : (num1 : Int).tmod 2 = Q := by rw [← hm1]; exact Int.tmod_eq_emod_of_nonneg (by omega)
                rw [← hQ] at HBool HI
                have HI2 := Lib.hid (show InAt wr (fun k => w5.heap.size ≤ k ∧ k < gi) gi ⟨Q :: r', 0⟩ from HI.out)
                have HQ := Lib.hid hQ
                clear h0 h1 h2 hbool hbytes he0 hQ
                go_wp2_with fail
                go_region_held3 (fun w' => w'.cell? ⟨b, o + q * 4 + 1, none⟩ = some (.int .u64 num1))
                  (first | go_keep | (exact hk8'.cell (p := ⟨b, o + q * 4 + 1, none⟩) (fun h => hbg h) (by assumption)))
                  ((go_at_call 29; refine (HBool.out _ _ (by exact HI2.out.drewN 1)).mono ?_; rintro e w8 ⟨rfl, hI8, hk8'⟩))
                go_wp2
                have hk9 : Kept (Only gi) wr w8 := ⟨hk8'.os, hk8'.tape, hk8'.output, hk8'.size, hk8'.block⟩
                exact ⟨⟨q + 1, r', by omega, by go_num, hnext.out, hI8, HK2.out.trans hk9 (fun i hi h => by have e : i = gi := h; omega)⟩, by simp [intOf]; omega⟩
        · have hqj : q = j := by omega
          subst hqj
          have hr0 : r = [] := by
            have := HCR.out
            have h2 : cat it q ++ [] = cat it q ++ r := by rw [List.append_nil]; exact this
            exact (List.append_cancel_left h2).symm
          subst hr0
          clear hk
          go_wp2_with fail
          refine (InDone_any gi _ _ _ HI.out).mono ?_
          rintro e w7 ⟨rfl, rfl⟩
          rw [show (⟨[], 0⟩ : ISt).done = 0 from rfl]
          go_wp2_with fail
          refine (awake_any _).mono ?_
          rintro e w8 ⟨rfl, hk8⟩
          go_wp2
          go_ret
          exact ⟨rfl, HK2.out.trans hk8 (fun _ _ h => h)⟩
    · obtain ⟨b, o, bv, rfl, hb, e0, e1, e2, e3, hbv, h64⟩ := hcell hj1
      clear hcell
      have hj0 : (0 : Int) ≤ (j : Int) := by omega
      have hjn : (j : Int) < (n : Int) := by omega
      have HBV := Lib.hid hbv
      obtain ⟨ba, bc, rfl, _⟩ := hbv
      have HX0 := Lib.hid (show ItmAt wr (fun k => k < w.heap.size) (.agg #[.int .i64 (it j).kind, .int .u64 (it j).n, .int .i64 (it j).width, .slice ba (it j).b.length bc]) (it j) from ⟨_, rfl, HBV.out, h64⟩)
      have hfit := Lib.hid (show (⟨cat it j, 5000, 0⟩ : OSt).emit (it j).err (it j).bytes = ⟨cat it (j + 1), 5000, 0⟩ by
        have := (it j).bytes_len
        unfold OSt.emit
        rw [if_pos rfl, if_pos hgood, if_pos (by simp only; omega)]
        rfl)
      have hw3 : ∀ (w3 : World) (G : Nat → Prop), OutAt w3 G g ⟨cat it (j + 1), 5000, 0⟩ → (∀ k, k < w3.heap.size → G k → w.heap.size ≤ k) → Kept NoB w w3 → Back1 w g n it (.int .i64 ((j : Int) + 1)) (.int .i64 ((j : Int) + 1)) w3 := fun w3 G h1 h2 h3 =>
        ⟨j + 1, fun k => G k ∧ k < w3.heap.size, by omega, by omega, by go_num, by go_num, h1.mono (fun k hk h => ⟨h, hk⟩), fun k h => ⟨h2 k h.2 h.1, h.2⟩, fun k hk => by
          by_cases hkj : k = j
          · subst hkj; exact hgood
          · exact HERR.out k (by omega), h3⟩
      have HW3 := Lib.hid hw3
      clear hw3
      by_cases hkind : (it j).kind = 0
      · have hpe : putErr (it j).n (it j).width = 0 := by
          have : (it j).err = putErr (it j).n (it j).width := if_pos hkind
          rw [← this]
          exact hgood
        have HPB := Lib.hid (RPut_any (it j).n (it j).width · h64)
        rw [hpe] at HPB
        have hkb : ((it j).kind == 0) = true := by rw [hkind]; rfl
        have hgj := hgood
        clear hkind hpe hgj
        generalize hX : it j = x at *
        have HX := Lib.hid hX
        clear hX hgood
        go_wp2_with fail
        go_region_held3 (fun w' => w'.cell? ⟨b, o + j * 4, none⟩ = some (.int .i64 x.kind) ∧ w'.cell? ⟨b, o + j * 4 + 1, none⟩ = some (.int .u64 x.n) ∧ w'.cell? ⟨b, o + j * 4 + 2, none⟩ = some (.int .i64 x.width) ∧ w'.cell? ⟨b, o + j * 4 + 3, none⟩ = some (.slice ba x.b.length bc))
          (first | go_keep | (go_split_ands; exact ⟨hk2.cell (p := ⟨b, o + j * 4, none⟩) (fun h => h) (by assumption), hk2.cell (p := ⟨b, o + j * 4 + 1, none⟩) (fun h => h) (by assumption), hk2.cell (p := ⟨b, o + j * 4 + 2, none⟩) (fun h => h) (by assumption), hk2.cell (p := ⟨b, o + j * 4 + 3, none⟩) (fun h => h) (by assumption)⟩))
          ((go_at_call 34; refine (HPB.out _).mono ?_; rintro e w2 ⟨v2, rfl, hv2, hk2⟩))
        have hk3 : Kept NoB wr w2 := ⟨hk2.os, hk2.tape, hk2.output, hk2.size, hk2.block⟩
        have c0 := hk3.cell (p := ⟨b, o + j * 4, none⟩) (fun h => h) e0
        have c1 := hk3.cell (p := ⟨b, o + j * 4 + 1, none⟩) (fun h => h) e1
        have c2 := hk3.cell (p := ⟨b, o + j * 4 + 2, none⟩) (fun h => h) e2
        have c3 := hk3.cell (p := ⟨b, o + j * 4 + 3, none⟩) (fun h => h) e3
        have HK3 := Lib.hid hk3
        clear hk3 hk2 e0 e1 e2 e3
        go_wp2_with fail
        refine (put_any g _ _ x F _ _ (HO.out.kept HK3.out (fun _ _ h => h)) (show ItmAt w2 (fun k => k < w.heap.size) _ x from by obtain ⟨b', h1, h2, h3⟩ := HX0.out; exact ⟨b', h1, h2.kept HK3.out (fun _ _ h => h), h3⟩) (fun k hk h => by have := (HF.out k h).1; omega) (fun k h => by have := (HF.out k h).2; have := HK3.out.size; omega) (by show (cat it j).length ≤ 900000; omega)).mono ?_
        rintro e w4 ⟨u4, rfl, hu4, hO4, hk4⟩
        rw [hfit.out] at hO4
        have hz2 := HK3.out.size
        have hzw := HK.out.size
        have R := Lib.hid (HW3.out w4 _ hO4 (fun k _ h => h.elim (fun h => (HF.out k h).1) (fun h => by omega)) ((HK.out.trans HK3.out (fun _ _ h => h)).trans hk4 (fun k _ h => by have := (HF.out k h).1; omega)))
        obtain ⟨ua4, uc4, rfl, _⟩ := hu4
        clear hO4 hk4
        generalize x.bytes.length = m4 at *
        generalize x.err = e4 at *
        go_wp2
        exact ⟨R.out, by simp [intOf]; omega⟩
      · have hkb : ((it j).kind == 0) = false := by simpa using hkind
        clear hkind
        generalize hX : it j = x at *
        have HX := Lib.hid hX
        clear hX hgood
        go_wp2_with fail
        refine (put_any g _ _ x F _ _ HO.out HX0.out (fun k hk h => by have := (HF.out k h).1; omega) (fun k h => (HF.out k h).2) (by show (cat it j).length ≤ 900000; omega)).mono ?_
        rintro e w4 ⟨u4, rfl, hu4, hO4, hk4⟩
        rw [hfit.out] at hO4
        have hzw := HK.out.size
        have R := Lib.hid (HW3.out w4 _ hO4 (fun k _ h => h.elim (fun h => (HF.out k h).1) (fun h => by omega)) (HK.out.trans hk4 (fun k _ h => by have := (HF.out k h).1; omega)))
        obtain ⟨ua4, uc4, rfl, _⟩ := hu4
        clear hO4 hk4
        generalize x.bytes.length = m4 at *
        generalize x.err = e4 at *
        go_wp2
        exact ⟨R.out, by simp [intOf]; omega⟩
end Go.Proofs.Ytnkkbajlmpccmaa
