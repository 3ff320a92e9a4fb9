/-
  Layer 30: the patches of bytes: the chapter's Get.
-/
import Derived.Test.YtiifkcjngajegaaVolK
import Derived.Test.YtiifkcjngajegaaIno4
namespace Go.Proofs.Ytiifkcjngajegaa
open Go.RowKit
set_option linter.unusedVariables false

theorem own_rbox30 {te : TypeId} {F : Nat → Prop} {wr W w3 : World} {B gi n c : Nat} {v : Value} {L : List Pv} {a : Option Addr} {er : Int} {s : ISt} (HO : POwn te B wr v L) (hte : te ≠ 85) (hF : ∀ k, F k → k < B) (hkW : Kept NoB wr W) (hg : W.grownBy w3 v.ownBlock) (h : RBox wr F gi a n c er s) : RBox w3 F gi a n c er s := by
  have ne := own_ne HO h.2.2.1 hte
  have hk : Kept (fun b => some b = v.ownBlock) wr w3 := (hkW.mono (fun _ _ h => h.elim)).grown hg (fun b hb => .inl hb.symm)
  exact h.kept hk (fun k hk he => by have := (World.ownsRow.lt HO k he.symm).1; have := hF k hk; omega) ne
theorem own_rest30 {te t : TypeId} {F : Nat → Prop} {w0 wr W w3 : World} {b0 : Nat} {v : Value} {L ps : List Pv} {l : List Pt} {cs : Array Value} (HO : POwn te w0.heap.size wr v L) (hte : te ≠ t) (hF : ∀ k, F k → k < w0.heap.size) (hK : Kept NoB w0 wr) (hkW : Kept NoB wr W) (hg : W.grownBy w3 v.ownBlock)
    (hb : wr.heap[b0]? = some (.cells cs t (0, 0))) (hd : Dat wr F ps l) : w3.heap[b0]? = some (.cells cs t (0, 0)) ∧ Dat w3 F ps l ∧ Kept NoB w0 w3 := by
  have ne := own_ne HO hb hte
  have hk : Kept (fun b => some b = v.ownBlock) wr w3 := (hkW.mono (fun _ _ h => h.elim)).grown hg (fun b hb => .inl hb.symm)
  exact ⟨hk.heap ne hb, hd.kept hk (fun k hk he => by have := (World.ownsRow.lt HO k he.symm).1; have := hF k hk; omega), hK.trans hk (fun i hi hx => absurd (World.ownsRow.lt HO i hx.symm).1 (by omega))⟩
def RGetRel30 (F : Nat → Prop) (w : World) (gi nn : Nat) (S : ISt) (n b : Int) (ov iv : Value) (wr : World) : Prop :=
  ∃ (k : Nat) (a : Option Addr) (m c : Nat) (er : Int) (ps : List Pv) (va : Option Addr) (vc : Nat), k ≤ nn ∧ iv = .int .u64 k ∧ ov = .slice va k vc ∧ ps.length = k ∧ RBox wr F gi a m c er (gqs30 k S).1 ∧ POwn 100 w.heap.size wr (.slice va k vc) ps ∧ Dat wr F ps (gqs30 k S).2 ∧ wr.heap[w.heap.size]? = some (.cells #[.int .i64 n, .int .i64 b] 42 (0, 0)) ∧ Kept NoB w wr
set_option maxRecDepth 100000 in
set_option maxHeartbeats 20000000 in
theorem rGet30_some (n b : Int) (v : Value) (bs : List Int) (F : Nat → Prop) (w : World) (h : BSl w F v bs) (hF : ∀ k, F k → k < w.heap.size) (hb : bs.length ≠ 0) (hr : rgt30 n b) :
    Calls Try.prog 34 #[.agg #[.int .i64 n, .int .i64 b], v] w (GetE30 (gotP n b bs).1 (gotP n b bs).2 w) := by
  obtain ⟨i0, hi0, hz0, hz1, hz2⟩ := info_parts info_rp
  obtain ⟨a, cap, rfl, _⟩ := id h
  have hbz2 : ((bs.length : Int) == 0) = false := by simpa using hb
  have hIB := h.isB
  have HB := Lib.hid h
  have HF := Lib.hid hF
  obtain ⟨p1, hp1⟩ : ∃ p, p = hd30 bs := ⟨_, rfl⟩
  have Q1 : Hid (p1 = (⟨bs, 0⟩ : ISt).upto 1 20) := Lib.hid (by rw [hp1]; rfl)
  have HG : Hid (gotP n b bs = (if (gqs30 p1.2.toNat p1.1).1.done ≠ 0 then ((gqs30 p1.2.toNat p1.1).1.done, []) else if (gqs30 p1.2.toNat p1.1).2 = [] ∨ chkP n b (gqs30 p1.2.toNat p1.1).2 ≠ 0 then (4, []) else (0, (gqs30 p1.2.toNat p1.1).2))) := Lib.hid (by
    unfold gotP
    rw [if_neg (fun h => hb (by rw [h]; rfl)), if_neg (fun h => h hr), hp1])
  clear hp1
  obtain ⟨S, nv⟩ := p1
  simp only at HG
  have HU1 := Lib.hid (fun v w (h : RAt w F v ⟨bs, 0⟩) hF => RUpto_any v ⟨bs, 0⟩ 1 20 F w h hF)
  rw [← Q1.out] at HU1
  simp only at HU1
  have hnr : 0 ≤ nv ∧ nv ≤ 20 := by have := upto_le28 ⟨bs, 0⟩ 1 (most := 20) (by decide); rw [← Q1.out] at this; exact this
  have HB1' := Lib.hid (show IsB S.l by have := isB_upto28 (s := ⟨bs, 0⟩) (w := 1) (most := 20) hIB (by omega); rw [show (((1 : Nat) : Int)) = 1 from rfl, ← Q1.out] at this; exact this)
  obtain ⟨nn, rfl⟩ := Int.eq_ofNat_of_zero_le hnr.1
  rw [Int.toNat_natCast] at HG
  have hn20 : nn ≤ 20 := by omega
  have HBD := Lib.hid (fun n => gqs_bounds30 (n := n) HB1'.out)
  have HBS := Lib.hid (fun k => isB_gqs30 HB1'.out k)
  have HR := Lib.hid (fun w => rRight30_any n b w)
  rw [decide_eq_true hr] at HR
  have HK0 := Lib.hid ((Kept.refl NoB w).alloc (.cells #[.int .i64 n, .int .i64 b] 42))
  have HB0 := Lib.hid (heap_alloc_new w (.cells #[.int .i64 n, .int .i64 b] 42))
  obtain ⟨c0, c1⟩ := cell2_30 HB0.out
  clear h hb hIB hr hF
  go_enter Try.func34, Try.ntmps34
  go_wp2_with (go_at_call 18; refine (HR.out _).mono ?_; rintro e w0 ⟨rfl, hk0⟩; have HKR := Lib.hid (HK0.out.trans hk0 (fun _ _ h => h)); have HBR := Lib.hid (hk0.heap (fun h => h) HB0.out); have HB1 := Lib.hid (HB.out.kept HKR.out (fun _ _ h => h)); clear hk0 c0 c1)
  have hra : RAt w0 F (.agg #[.slice a bs.length cap, .int .i64 0]) ⟨bs, 0⟩ := ⟨⟨fun h => absurd rfl h, Int.le_refl _, by show (0 : Int) < 100; omega⟩, _, rfl, HB1.out⟩
  have hwb : w.heap.size < w0.heap.size := heap_lt HBR.out
  refine (HU1.out _ _ hra (fun k hk => by have := HF.out k hk; omega)).mono ?_
  rintro e w1 ⟨v1, rfl, hr1, hk1⟩
  have HK1 := Lib.hid (HKR.out.trans hk1 (fun _ _ h => h))
  have HX1 := Lib.hid (hk1.heap (fun h => h) HBR.out)
  obtain ⟨a1, n1, c1, e1, rfl, hn1, he1⟩ := rat_form hr1
  have HR1 := Lib.hid hr1
  have HN1 := Lib.hid (And.intro hn1 he1)
  clear hra hr1 hk1 hn1 he1
  go_wp2_with fail
  obtain ⟨gi, hgi⟩ : ∃ g, g = w1.heap.size := ⟨_, rfl⟩
  have hg1 : w.heap.size < gi := by rw [hgi]; exact heap_lt HX1.out
  have hki := (Kept.refl NoB w1).alloc (.cells #[.slice a1 n1 c1, .int .i64 e1] 85)
  have HB1 : Hid (RBox (w1.alloc (.cells #[.slice a1 n1 c1, .int .i64 e1] 85)) F gi a1 n1 c1 e1 S) := Lib.hid ⟨HN1.out.1, HN1.out.2, by rw [hgi]; exact heap_alloc_new w1 _, HR1.out.kept hki (fun _ _ h => h)⟩
  have HFG := Lib.hid (show ∀ k, F k → k ≠ gi from fun k hk he => by have := HF.out k hk; omega)
  have HFW : Hid (∀ w' : World, gi < w'.heap.size → ∀ k, F k → k < w'.heap.size) := Lib.hid (fun w' h k hk => by have := HF.out k hk; omega)
  replace HX1 := Lib.hid (hki.heap (fun h => h) HX1.out)
  replace HK1 := Lib.hid (HK1.out.trans hki (fun _ _ h => h))
  rw [← hgi]
  clear hki hgi HR1 HN1
  go_loopw [8, 9] (fun ov i wr => RGetRel30 F w gi nn S n b ov i wr) (fun _ i _ => nn - (RowKit.intOf i).toNat)
  case atStart => exact ⟨0, a1, n1, c1, e1, [], none, 0, Nat.zero_le _, rfl, rfl, rfl, HB1.out, World.ownsRow_nil _ _ _ _, Dat.nil _ _, HX1.out, HK1.out⟩
  case round =>
    obtain ⟨k, a, m, c, er, ps, va, vc, hk, rfl, rfl, hpl, hrb, hown, hdt, hbx, hK⟩ := hrel
    have HPL := Lib.hid hpl
    have HRB := Lib.hid hrb
    have HO := Lib.hid hown
    have HDT := Lib.hid hdt
    have HBX := Lib.hid hbx
    have HK := Lib.hid hK
    clear hrb hown hdt hbx hK HX1 HK1 hpl
    by_cases hlt : k < nn
    · have hk1 : (k : Int) < (nn : Int) := by omega
      have HG1 : Hid (gqs30 (k + 1) S = ((gq30 (gqs30 k S).1).1, (gqs30 k S).2 ++ [(gq30 (gqs30 k S).1).2])) := Lib.hid rfl
      have hB0 := HBS.out k
      obtain ⟨t0, ht0⟩ : ∃ t, t = (gqs30 k S).1 := ⟨_, rfl⟩
      obtain ⟨L, hL⟩ : ∃ t, t = (gqs30 k S).2 := ⟨_, rfl⟩
      rw [← ht0, ← hL] at HG1
      rw [← ht0] at HRB hB0
      rw [← hL] at HDT
      obtain ⟨t1, ht1⟩ : ∃ t, t = (t0.get 4).1 := ⟨_, rfl⟩
      obtain ⟨v1, hv1⟩ : ∃ v, v = (t0.get 4).2 := ⟨_, rfl⟩
      obtain ⟨t2, ht2⟩ : ∃ t, t = (t1.get 8).1 := ⟨_, rfl⟩
      obtain ⟨v2, hv2⟩ : ∃ v, v = (t1.get 8).2 := ⟨_, rfl⟩
      obtain ⟨t3, ht3⟩ : ∃ t, t = (t2.text 64).1 := ⟨_, rfl⟩
      obtain ⟨d3, hd3⟩ : ∃ v, v = (t2.text 64).2 := ⟨_, rfl⟩
      have HGX : Hid (gq30 t0 = (t3, (v1, v2, d3))) := Lib.hid (by unfold gq30; rw [← ht1, ← ht2, ← hv1, ← hv2, ← ht3, ← hd3])
      have hb1 : 0 ≤ v1 ∧ v1 < 4294967296 := by have := get_le28 (w := 4) hB0 (by omega) (by omega); rw [show (((4 : Nat) : Int)) = 4 from rfl, ← hv1] at this; exact this
      have hw1 : IntKind.u32.wrap v1 = v1 := IntWalk.u32_in _ (by omega)
      have HC0 := Lib.hid (fun v w h1 h2 => RGet_any v t0 4 F w h1 h2)
      have HC1 := Lib.hid (fun v w h1 h2 => RGet_any v t1 8 F w h1 h2)
      have HC2 := Lib.hid (fun v w h1 h2 => RRead_any v t2 64 F w h1 h2)
      rw [← ht1, ← hv1] at HC0
      rw [← ht2, ← hv2] at HC1
      rw [← ht3, ← hd3] at HC2
      have hgi := heap_lt HRB.out.2.2.1
      obtain ⟨i0', i1', f0, f1⟩ := cells2r HRB.out.2.2.1
      clear ht0 hL hB0 ht1 hv1 ht2 hv2 ht3 hd3
      go_wp2_with fail
      refine (HC0.out _ wr HRB.out.2.2.2 (HFW.out _ hgi)).mono ?_
      rintro e g1 ⟨q1, rfl, hr1, hk1'⟩
      obtain ⟨b1, m1, d1, y1, rfl, hm1, hy1⟩ := rat_form hr1
      have hki := hk1'.alloc (.cells #[.slice b1 m1 d1, .int .i64 y1] 85)
      obtain ⟨gj, hgj⟩ : ∃ g, g = g1.heap.size := ⟨_, rfl⟩
      have hij : gi < gj := by rw [hgj]; exact Nat.lt_of_lt_of_le hgi hk1'.size
      have hwj : wr.heap.size ≤ gj := by rw [hgj]; exact hk1'.size
      have HJ1 : Hid (RBox (g1.alloc (.cells #[.slice b1 m1 d1, .int .i64 y1] 85)) F gj b1 m1 d1 y1 t1) := Lib.hid ⟨hm1, hy1, by rw [hgj]; exact heap_alloc_new g1 _, hr1.kept ((Kept.refl NoB g1).alloc _) (fun _ _ h => h)⟩
      have HK1 := Lib.hid hki
      have HFJ := Lib.hid (show ∀ k, F k → k ≠ gj from fun k hk he => by have := HFW.out _ hgi k hk; omega)
      have HKK := Lib.hid (show k < nn from hlt)
      clear hr1 hk1' hm1 hy1 hki i0' i1' f0 f1
      go_wp2_with fail
      rw [← hgj]
      clear hgj
      refine (HC1.out _ _ HJ1.out.2.2.2 (HFW.out _ (by have := heap_lt HJ1.out.2.2.1; omega))).mono ?_
      rintro e g2 ⟨q2, rfl, hr2, hk2'⟩
      obtain ⟨b2, m2, d2, y2, rfl, hm2, hy2⟩ := rat_form hr2
      replace HJ1 := Lib.hid (HJ1.out.kept hk2' (fun _ _ h => h) (fun h => h))
      have hkk := HK1.out.trans hk2' (fun _ _ h => h)
      have hs1 := set2_kept g2 gj (.slice b2 m2 d2) (.int .i64 y2)
      have hj2 := HJ1.out.set hr2 HFJ.out
      have hkA := hkk.trans hs1 (fun i hi h => by have h : i = gj := h; omega)
      obtain ⟨j0, j1, f0, f1⟩ := cells2r HJ1.out.2.2.1
      clear HJ1 hr2 hk2' hkk HC0 HC1 HK1 hm2 hy2
      go_upto_region 12 with fail
      obtain ⟨g3, hg3⟩ : ∃ g, g = ((g2.setCell ⟨gj, 0, none⟩ (.slice b2 m2 d2)).setCell ⟨gj, 1, none⟩ (.int .i64 y2)) := ⟨_, rfl⟩
      rw [← hg3] at hj2 hkA ⊢
      have HJ2 := Lib.hid hj2
      have HKA := Lib.hid hkA
      clear hs1 hg3 j0 j1 f0 f1 hj2 hkA
      obtain ⟨j0, j1, f0, f1⟩ := cells2r HJ2.out.2.2.1
      go_wp2_with fail
      refine (HC2.out _ _ HJ2.out.2.2.2 (HFW.out _ (by have := heap_lt HJ2.out.2.2.1; omega))).mono ?_
      rintro e g4 ⟨q3, u, rfl, hr3, hu3, hk3'⟩
      obtain ⟨b3, m3, d4, y3, rfl, hm3, hy3⟩ := rat_form hr3
      replace HJ2 := Lib.hid (HJ2.out.kept hk3' (fun _ _ h => h) (fun h => h))
      have hkk := HKA.out.trans hk3' (fun _ _ h => h)
      have hs1 := set2_kept g4 gj (.slice b3 m3 d4) (.int .i64 y3)
      have hj2 := HJ2.out.set hr3 HFJ.out
      have hkA := hkk.trans hs1 (fun i hi h => by have h : i = gj := h; omega)
      have hr3' := hr3.kept hs1 (fun k hk h => HFJ.out k hk h)
      have hu3' := hu3.kept hs1 (fun k hk h => HFJ.out k hk h)
      obtain ⟨ua, uc, rfl, _⟩ := id hu3
      obtain ⟨un, hun⟩ : ∃ un, un = d3.length := ⟨_, rfl⟩
      have HUN := Lib.hid hun
      rw [← hun]
      clear j0 j1 f0 f1
      obtain ⟨j0, j1, f0, f1⟩ := cells2r HJ2.out.2.2.1
      clear HJ2 hr3 hk3' hkk HC2 HKA hm3 hy3 hu3 hun
      go_upto_region 13 with fail
      obtain ⟨g5, hg5⟩ : ∃ g, g = ((g4.setCell ⟨gj, 0, none⟩ (.slice b3 m3 d4)).setCell ⟨gj, 1, none⟩ (.int .i64 y3)) := ⟨_, rfl⟩
      rw [← hg5] at hj2 hkA hr3' hu3' ⊢
      have HU5 := Lib.hid hu3'
      have HRB3 := Lib.hid (HRB.out.kept hkA (fun _ _ h => h) (fun h => h))
      have hs2 := set2_kept g5 gi (.slice b3 m3 d4) (.int .i64 y3)
      have hrb4 := HRB3.out.set hr3' HFG.out
      have hu4 := HU5.out.kept hs2 (fun k hk h => HFG.out k hk h)
      have hkB := (hkA.mono (T := fun i => i = gi) (fun _ _ h => h.elim)).trans hs2 (fun i _ h => h)
      obtain ⟨l0, l1, _, _⟩ := cells2r hj2.2.2.1
      obtain ⟨o0, o1, q0, q1⟩ := cells2r HRB3.out.2.2.1
      clear hs1 hg5 j0 j1 f0 f1 hr3' hu3' hkA hs2 hj2
      go_upto_region 14 with fail
      obtain ⟨g6, hg6⟩ : ∃ g, g = ((g5.setCell ⟨gi, 0, none⟩ (.slice b3 m3 d4)).setCell ⟨gi, 1, none⟩ (.int .i64 y3)) := ⟨_, rfl⟩
      rw [← hg6] at hrb4 hkB hu4 ⊢
      have ngi := own_ne HO.out HRB.out.2.2.1 (by decide)
      have HRB4 := Lib.hid hrb4
      have HO4 := Lib.hid (show POwn 100 w.heap.size g6 (.slice va k vc) ps from HO.out.kept hkB (fun k hk he => ngi (by rw [hk, he])))
      have HDT4 := Lib.hid (HDT.out.kept hkB (fun k hk h => HFG.out k hk h))
      have HU4 := Lib.hid hu4
      have HBX4 := Lib.hid (hkB.heap (fun h => by have h : w.heap.size = gi := h; omega) HBX.out)
      have HK4 := Lib.hid (HK.out.trans hkB (fun i hi h => by have h : i = gi := h; omega))
      have HKE := Lib.hid ((Kept.refl NoB g6).alloc (.cells #[.int .u32 v1, .int .u64 v2, .slice ua un uc] 100))
      have HEX := Lib.hid (heap_alloc_new g6 (.cells #[.int .u32 v1, .int .u64 v2, .slice ua un uc] 100))
      have HOE := Lib.hid (HO4.out.no HKE.out)
      have HSZ := Lib.hid (show w.heap.size ≤ (World.alloc g6 (.cells #[.int .u32 v1, .int .u64 v2, .slice ua un uc] 100)).heap.size from Nat.le_trans HK4.out.size HKE.out.size)
      have hLL : ps.length ≤ 100000 := by have := HPL.out; omega
      clear hg6 hrb4 hkB hu4 ngi HRB HO HDT HBX HK l0 l1 o0 o1 q0 q1
      go_wp2_with (at_builtin; refine wpList_append_p Try.underlying53 hi0 hz0 hz1 hz2 rfl _ rfl (.tmp 48) (.tmp 54) rfl w.heap.size (.slice va k vc) ps rfl HOE.out _ (v1, v2, ua, un, uc) rfl HEX.out hLL HSZ.out ?_; intro a5 c5 w5 hown5 hg5; (obtain ⟨h8, h6, hk5⟩ := own_rest30 HO4.out (by decide) HF.out HK4.out HKE.out hg5 HBX4.out HDT4.out); have HR5 := Lib.hid (own_rbox30 HO4.out (by decide) HF.out HKE.out hg5 HRB4.out); have HU5' := Lib.hid (HU4.out.kept ((HKE.out.mono (T := fun b => some b = (Value.slice va k vc).ownBlock) (fun _ _ h => h.elim)).grown hg5 (fun b hb => .inl hb.symm)) (fun i hi he => by have := (World.ownsRow.lt HO4.out i he.symm).1; have := HF.out i hi; omega)); have HB5 := Lib.hid h8; have HD5 := Lib.hid h6; have HK5 := Lib.hid hk5; have HO5 := Lib.hid hown5; clear h8 h6 hk5 hg5 hown5)
      go_roundw
      case rel => exact ⟨k + 1, b3, m3, d4, y3, ps ++ [(v1, v2, ua, un, uc)], a5, c5, by have := HKK.out; omega, by go_num, by rw [HPL.out], by rw [List.length_append, HPL.out]; rfl, by rw [HG1.out, HGX.out]; exact HR5.out, by have := HO5.out; rw [HPL.out] at this; exact this, by rw [HG1.out, HGX.out]; have hd2 := HD5.out.snoc v1 v2 ua uc d3 HU5'.out; rw [← HUN.out] at hd2; exact hd2, HB5.out, HK5.out⟩
      case measure => simp [RowKit.intOf]; have := HKK.out; omega
    · obtain rfl : k = nn := by omega
      have HBD2 := Lib.hid (HBD.out k)
      obtain ⟨s2, hs2⟩ : ∃ s2, s2 = (gqs30 k S).1 := ⟨_, rfl⟩
      obtain ⟨L, hL⟩ : ∃ t, t = (gqs30 k S).2 := ⟨_, rfl⟩
      have hLl : L.length = k := by rw [hL]; exact gqs_len30 k S
      rw [← hs2, ← hL] at HG
      rw [← hs2] at HRB
      rw [← hL] at HDT HBD2
      have hxs : PSl wr (fun i => w.heap.size ≤ i) (fun _ => True) (.slice va k vc) L := ⟨ps, HO.out.sl, HDT.out.mono (fun _ _ _ => trivial)⟩
      have HXS := Lib.hid hxs
      have HKW := HK
      have HDN := Lib.hid (RDone_any _ s2 F wr HRB.out.2.2.2)
      obtain ⟨dn, hdn⟩ : ∃ d, d = s2.done := ⟨_, rfl⟩
      rw [← hdn] at HG HDN
      obtain ⟨c0, c1⟩ := cell2_30 HBX.out
      obtain ⟨j0, j1, _, _⟩ := cells2r HRB.out.2.2.1
      clear hxs hs2 hL hdn
      by_cases hd : dn = 0
      · rw [if_neg (fun h => h hd)] at HG
        rw [hd] at HDN
        by_cases hz : k = 0
        · have hLz : L = [] := List.eq_nil_of_length_eq_zero (by omega)
          rw [if_pos (.inl hLz)] at HG
          have g4 : ((k : Int) == 0) = true := by rw [hz]; rfl
          clear hd hLz hLl hz hlt hk
          go_wp2_with (go_at_call 46; refine HDN.out.mono ?_; rintro e w9 ⟨rfl, hk⟩; replace HXS := Lib.hid (HXS.out.no hk); replace HKW := Lib.hid (HKW.out.trans hk (fun _ _ h => h)); replace HBX := Lib.hid (hk.heap (fun h => h) HBX.out); clear c0 c1 hk; obtain ⟨c0, c1⟩ := cell2_30 HBX.out)
          exact bodyPost_ret (v := .tuple #[.slice none 0 0, .int .i64 4]) (by simp [results, Try.results34, go_sem]) rfl (by rw [HG.out]; exact GetE30.nil rfl HKW.out)
        · have hLz : L ≠ [] := fun h => hz (by rw [← hLl, h]; rfl)
          have g4 : ((k : Int) == 0) = false := by simpa using hz
          have HCH := Lib.hid (fun wr (h : PSl wr (fun i => w.heap.size ≤ i) (fun _ => True) (.slice va k vc) L) => rCheck30_any n b _ L _ _ wr h (fun j hj => (HBD2.out j (by omega)).1))
          by_cases hc : chkP n b L = 0
          · rw [if_neg (fun h => h.elim hLz (fun h => h hc))] at HG
            rw [hc] at HCH
            clear hd hc hLz hz hLl hlt hk
            go_wp2_with (first
              | (go_at_call 46; refine HDN.out.mono ?_; rintro e w9 ⟨rfl, hk⟩; replace HXS := Lib.hid (HXS.out.no hk); replace HKW := Lib.hid (HKW.out.trans hk (fun _ _ h => h)); replace HBX := Lib.hid (hk.heap (fun h => h) HBX.out); clear c0 c1 hk; obtain ⟨c0, c1⟩ := cell2_30 HBX.out)
              | (go_at_call 28; refine (HCH.out _ HXS.out).mono ?_; rintro e w10 ⟨rfl, hk⟩; have HX9 := Lib.hid (HXS.out.no hk); have HK9 := Lib.hid (HKW.out.trans hk (fun _ _ h => h)); clear hk c0 c1))
            exact bodyPost_ret (v := .tuple #[.slice va k vc, .int .i64 0]) (by simp [results, Try.results34, go_sem]) rfl (by rw [HG.out]; exact ⟨_, rfl, HX9.out, HK9.out⟩)
          · rw [if_pos (.inr hc)] at HG
            have hne : (chkP n b L != 0) = true := bne_iff_ne.2 hc
            obtain ⟨er', her⟩ : ∃ er, er = chkP n b L := ⟨_, rfl⟩
            rw [← her] at HCH hne
            clear hd hc her hLz hz hLl hlt hk
            go_wp2_with (first
              | (go_at_call 46; refine HDN.out.mono ?_; rintro e w9 ⟨rfl, hk⟩; replace HXS := Lib.hid (HXS.out.no hk); replace HKW := Lib.hid (HKW.out.trans hk (fun _ _ h => h)); replace HBX := Lib.hid (hk.heap (fun h => h) HBX.out); clear c0 c1 hk; obtain ⟨c0, c1⟩ := cell2_30 HBX.out)
              | (go_at_call 28; refine (HCH.out _ HXS.out).mono ?_; rintro e w10 ⟨rfl, hk⟩; have HX9 := Lib.hid (HXS.out.no hk); have HK9 := Lib.hid (HKW.out.trans hk (fun _ _ h => h)); clear hk c0 c1))
            exact bodyPost_ret (v := .tuple #[.slice none 0 0, .int .i64 4]) (by simp [results, Try.results34, go_sem]) rfl (by rw [HG.out]; exact GetE30.nil rfl HK9.out)
      · rw [if_pos hd] at HG
        have hne : (dn != 0) = true := bne_iff_ne.2 hd
        clear hd hLl hlt hk
        go_wp2_with (go_at_call 46; refine HDN.out.mono ?_; rintro e w9 ⟨rfl, hk⟩; replace HXS := Lib.hid (HXS.out.no hk); replace HKW := Lib.hid (HKW.out.trans hk (fun _ _ h => h)); replace HBX := Lib.hid (hk.heap (fun h => h) HBX.out); clear c0 c1 hk; obtain ⟨c0, c1⟩ := cell2_30 HBX.out)
        exact bodyPost_ret (v := .tuple #[.slice none 0 0, .int .i64 dn]) (by simp [results, Try.results34, go_sem]) rfl (by rw [HG.out]; exact GetE30.nil rfl HKW.out)
theorem rGet30_any (n b : Int) (v : Value) (bs : List Int) (F : Nat → Prop) (w : World) (h : BSl w F v bs) (hF : ∀ k, F k → k < w.heap.size) :
    Calls Try.prog 34 #[.agg #[.int .i64 n, .int .i64 b], v] w (GetE30 (gotP n b bs).1 (gotP n b bs).2 w) := by
  by_cases hb : bs.length = 0
  · obtain ⟨a, cap, rfl, _⟩ := h
    obtain rfl : bs = [] := List.eq_nil_of_length_eq_zero hb
    have hg : gotP n b [] = (0, []) := by unfold gotP; rw [if_pos rfl]
    rw [hg]
    have HK0 := Lib.hid ((Kept.refl NoB w).alloc (.cells #[.int .i64 n, .int .i64 b] 42))
    clear hb hg hF
    go_enter Try.func34, Try.ntmps34
    go_wp2_with fail
    exact bodyPost_ret (v := .tuple #[.slice none 0 0, .int .i64 0]) (by simp [results, Try.results34, go_sem]) rfl (GetE30.nil rfl HK0.out)
  · by_cases hr : rgt30 n b
    · exact rGet30_some n b v bs F w h hF hb hr
    · have hbz2 : ((bs.length : Int) == 0) = false := by simpa using hb
      have hg : gotP n b bs = (1, []) := by unfold gotP; rw [if_neg (fun h => hb (by rw [h]; rfl)), if_pos hr]
      rw [hg]
      have HR := Lib.hid (fun w => rRight30_any n b w)
      rw [decide_eq_false hr] at HR
      have HB := Lib.hid h
      obtain ⟨a, cap, rfl, _⟩ := id h
      have HK0 := Lib.hid ((Kept.refl NoB w).alloc (.cells #[.int .i64 n, .int .i64 b] 42))
      have HB0 := Lib.hid (heap_alloc_new w (.cells #[.int .i64 n, .int .i64 b] 42))
      obtain ⟨c0, c1⟩ := cell2_30 HB0.out
      clear hb hg hr h hF
      go_enter Try.func34, Try.ntmps34
      go_wp2_with (go_at_call 18; refine (HR.out _).mono ?_; rintro e w0 ⟨rfl, hk0⟩; have HKR := Lib.hid (HK0.out.trans hk0 (fun _ _ h => h)); have HBR := Lib.hid (hk0.heap (fun h => h) HB0.out); have HB1 := Lib.hid (HB.out.kept HKR.out (fun _ _ h => h)); clear hk0 c0 c1)
      exact bodyPost_ret (v := .tuple #[.slice none 0 0, .int .i64 1]) (by simp [results, Try.results34, go_sem]) rfl (GetE30.nil rfl HKR.out)
end Go.Proofs.Ytiifkcjngajegaa
