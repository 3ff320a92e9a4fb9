/-
  Layer 30: the patches of bytes: Get of the package.
-/
import Derived.Test.YtiifkcjngajegaaVolJ
import Derived.Test.YtiifkcjngajegaaIno4
import Derived.Test.YtiifkcjngajegaaInB
namespace Go.Proofs.Ytiifkcjngajegaa
open Go.RowKit
set_option linter.unusedVariables false

theorem celP_cons (p : Pv) (ps : List Pv) : celP (p :: ps) = .int .u32 p.1 :: .int .u64 p.2.1 :: sp30 p.2.2 :: celP ps := by unfold celP; rw [List.flatMap_cons]; rfl
theorem celP_set30 (ps : List Pv) (k : Nat) (hk : k < ps.length) (x : Pv) : celP (ps.set k x) = (((celP ps).set (k * 3) (.int .u32 x.1)).set (k * 3 + 1) (.int .u64 x.2.1)).set (k * 3 + 1 + 1) (sp30 x.2.2) := by
  induction ps generalizing k with
  | nil => exact absurd hk (by simp)
  | cons p ps ih =>
    cases k with
    | zero => rw [List.set_cons_zero, celP_cons, celP_cons]; rfl
    | succ k =>
      rw [List.set_cons_succ, celP_cons, celP_cons, ih k (by simpa using hk)]
      rw [show (k + 1) * 3 = k * 3 + 1 + 1 + 1 by omega]
      rfl
/-- Block r is a row of these patches, and no more. -/
def RowP (t : TypeId) (w : World) (r : Nat) (ps : List Pv) : Prop := w.heap[r]? = some (.cells (celP ps).toArray t (0, 0))
theorem RowP.set {t : TypeId} {w : World} {r : Nat} {ps : List Pv} (h : RowP t w r ps) (k : Nat) (hk : k < ps.length) (x : Pv) : RowP t (((w.setCell ⟨r, k * 3, none⟩ (.int .u32 x.1)).setCell ⟨r, k * 3 + 1, none⟩ (.int .u64 x.2.1)).setCell ⟨r, k * 3 + 1 + 1, none⟩ (sp30 x.2.2)) r (ps.set k x) := by
  have h1 := heap_setCell_same w r (k * 3) _ _ (.int .u32 x.1) h
  have h2 := heap_setCell_same _ r (k * 3 + 1) _ _ (.int .u64 x.2.1) h1
  have h3 := heap_setCell_same _ r (k * 3 + 1 + 1) _ _ (sp30 x.2.2) h2
  unfold RowP
  rw [h3, celP_set30 ps k hk]
  simp
theorem RowP.at_ {t : TypeId} {w : World} {r : Nat} {ps : List Pv} (h : RowP t w r ps) {j : Nat} (hj : j < ps.length) : w.cell? ⟨r, j * 3, none⟩ = some (.int .u32 (pth ps j).1) ∧ w.cell? ⟨r, j * 3 + 1, none⟩ = some (.int .u64 (pth ps j).2.1) ∧ w.cell? ⟨r, j * 3 + 1 + 1, none⟩ = some (sp30 (pth ps j).2.2) := by
  obtain ⟨h1, h2, h3⟩ := celP_at hj
  exact ⟨by rw [cell_of_row _ _ _ _ _ _ h, List.getElem?_toArray, h1], by rw [cell_of_row _ _ _ _ _ _ h, List.getElem?_toArray, h2], by rw [cell_of_row _ _ _ _ _ _ h, List.getElem?_toArray, h3]⟩
theorem RowP.sl {t : TypeId} {w : World} {r c : Nat} {ps : List Pv} {F : Nat → Prop} (h : RowP t w r ps) (hF : F r) (hc : ps.length ≤ c) (hm : c ≤ maxLen) : PvSl w F (.slice (some ⟨r, 0, none⟩) ps.length c) ps :=
  ⟨_, c, rfl, hc, hm, (fun h => by cases h), fun _ => ⟨r, 0, rfl, hF, heap_lt h, fun j hj => by
    have := h.at_ hj
    rw [Nat.zero_add]
    exact this⟩⟩
theorem made_celP (n : Nat) : (madeCells (#[.int .u32 0, .int .u64 0, .slice none 0 0] : Array Value) (n * 3)).toList = celP (List.replicate n (0, 0, none, 0, 0)) := by
  refine List.ext_getElem? (fun m => ?_)
  have hl : (celP (List.replicate n ((0, 0, none, 0, 0) : Pv))).length = n * 3 := by rw [celP_len, List.length_replicate]
  by_cases hm : m < n * 3
  · have h1 : (madeCells (#[.int .u32 0, .int .u64 0, .slice none 0 0] : Array Value) (n * 3)).toList[m]? = some ((#[.int .u32 0, .int .u64 0, .slice none 0 0] : Array Value)[m % 3]!) := by
      unfold madeCells
      simp [hm]
    rw [h1]
    obtain ⟨h2, h3, h4⟩ := celP_at (l := List.replicate n ((0, 0, none, 0, 0) : Pv)) (i := m / 3) (by rw [List.length_replicate]; omega)
    have hx : pth (List.replicate n ((0, 0, none, 0, 0) : Pv)) (m / 3) = (0, 0, none, 0, 0) := by rw [pth_eq (by rw [List.length_replicate]; omega)]; simp
    rw [hx] at h2 h3 h4
    rcases (by omega : m % 3 = 0 ∨ m % 3 = 1 ∨ m % 3 = 2) with hp | hp | hp
    · rw [show m / 3 * 3 = m by omega] at h2
      rw [h2, hp]; rfl
    · rw [show m / 3 * 3 + 1 = m by omega] at h3
      rw [h3, hp]; rfl
    · rw [show m / 3 * 3 + 1 + 1 = m by omega] at h4
      rw [h4, hp]; rfl
  · rw [List.getElem?_eq_none (by rw [Array.length_toList, size_madeCells]; omega), List.getElem?_eq_none (by rw [hl]; omega)]
/-- What make gives. -/
theorem RowP.made {t : TypeId} {w : World} {B n g : Nat} (h : w.ownsRow B t 3 (.slice (some ⟨g, 0, none⟩) n n) n (madeCells (#[.int .u32 0, .int .u64 0, .slice none 0 0] : Array Value) (n * 3)).toList) : RowP t w g (List.replicate n (0, 0, none, 0, 0)) := by
  rcases h.2 with ⟨hv, _⟩ | ⟨g', cap, cur, hv, hb, hr, hc, hm, hs, ht⟩
  · cases hv
  · injection hv with hv hn hcap
    injection hv with hv
    injection hv with hv _ _
    subst hv hcap
    unfold RowP
    rw [hr]
    have e : cur.toList = celP (List.replicate n (0, 0, none, 0, 0)) := by
      have h1 := List.take_of_length_le (l := cur.toList) (i := n * 3) (by simp [hs])
      exact (h1.symm.trans ht).trans (made_celP n)
    rw [← e]
theorem set3r_kept (w : World) (r o1 o2 o3 : Nat) (a b c : Value) : Kept (fun k => k = r) w (((w.setCell ⟨r, o1, none⟩ a).setCell ⟨r, o2, none⟩ b).setCell ⟨r, o3, none⟩ c) :=
  (((Kept.refl (fun i => i = r) w).setCell (p := ⟨r, o1, none⟩) (.inl rfl) _).setCell (p := ⟨r, o2, none⟩) (.inl rfl) _).setCell (p := ⟨r, o3, none⟩) (.inl rfl) _
/-- What Get tells. -/
def GetE30 (er : Int) (l : List Pt) (w : World) (e : Ending) (w' : World) : Prop := ∃ v, e = .returned (.tuple #[v, .int .i64 er]) ∧ PSl w' (fun k => w.heap.size ≤ k) (fun _ => True) v l ∧ Kept NoB w w'
theorem GetE30.nil {er q : Int} {w w' : World} (hq : q = er) (hk : Kept NoB w w') : GetE30 er [] w (.returned (.tuple #[.slice none 0 0, .int .i64 q])) w' := by subst hq; exact ⟨_, rfl, PSl.nil _ _ _, hk⟩
def VGetRel (B w : World) (F : Nat → Prop) (g r nn : Nat) (S : ISt) (n b : Int) (iv : Value) (wr : World) : Prop :=
  ∃ (k : Nat) (ps : List Pv), k ≤ nn ∧ iv = .int .i64 k ∧ ps.length = nn ∧ Dat wr F (ps.take k) (gqs30 k S).2 ∧ RowP 101 wr r ps ∧ InAt wr F g (gqs30 k S).1 ∧ wr.heap[w.heap.size]? = some (.cells #[.int .i64 n, .int .i64 b] 44 (0, 0)) ∧ Kept (fun i => B.heap.size ≤ i) B wr
set_option maxRecDepth 100000 in
set_option maxHeartbeats 20000000 in
theorem vGet_some (n b : Int) (v : Value) (bs : List Int) (F : Nat → Prop) (w : World) (h : BSl w F v bs) (hl : bs.length ≤ 1000000) (hb : bs.length ≠ 0) (hr : rgt30 n b) :
    Calls Try.prog 32 #[.agg #[.int .i64 n, .int .i64 b], v] w (GetE30 (gotP n b bs).1 (gotP n b bs).2 w) := by
  obtain ⟨i0, hi0, hz0, hz1, hz2⟩ := info_parts info_p
  obtain ⟨a, cap, rfl, _⟩ := id h
  have hbz2 : ((bs.length : Int) == 0) = false := by simpa using hb
  have hIB := h.isB
  have HB := Lib.hid h
  obtain ⟨p1, hp1⟩ : ∃ p, p = hd30 bs := ⟨_, rfl⟩
  have Q1 : Hid (p1 = (⟨bs, 0⟩ : ISt).upto 1 20) := Lib.hid (by rw [hp1]; rfl)
  have HG : Hid (gotP n b bs = (if (gqs30 p1.2.toNat p1.1).1.done ≠ 0 then ((gqs30 p1.2.toNat p1.1).1.done, []) else if (gqs30 p1.2.toNat p1.1).2 = [] ∨ chkP n b (gqs30 p1.2.toNat p1.1).2 ≠ 0 then (4, []) else (0, (gqs30 p1.2.toNat p1.1).2))) := Lib.hid (by
    unfold gotP
    rw [if_neg (fun h => hb (by rw [h]; rfl)), if_neg (fun h => h hr), hp1])
  clear hp1
  obtain ⟨S, nv⟩ := p1
  simp only at HG
  have HU1 := Lib.hid (fun g F w (h : InAt w F g ⟨bs, 0⟩) => Upto_any g ⟨bs, 0⟩ 1 20 F w h (by decide))
  rw [← Q1.out] at HU1
  simp only at HU1
  have hnr : 0 ≤ nv ∧ nv ≤ 20 := by have := upto_le28 ⟨bs, 0⟩ 1 (most := 20) (by decide); rw [← Q1.out] at this; exact this
  have HB1' := Lib.hid (show IsB S.l by have := isB_upto28 (s := ⟨bs, 0⟩) (w := 1) (most := 20) hIB (by omega); rw [show (((1 : Nat) : Int)) = 1 from rfl, ← Q1.out] at this; exact this)
  obtain ⟨nn, rfl⟩ := Int.eq_ofNat_of_zero_le hnr.1
  rw [Int.toNat_natCast] at HG
  have hn20 : nn ≤ 20 := by omega
  have hwn : IntKind.i64.wrap (nn : Int) = (nn : Int) := IntWalk.i64_in _ (by omega)
  have HBD := Lib.hid (fun n => gqs_bounds30 (n := n) HB1'.out)
  have HBS := Lib.hid (fun k => isB_gqs30 HB1'.out k)
  have HR := Lib.hid (fun w => vRight_any n b w)
  rw [decide_eq_true hr] at HR
  have HK0 := Lib.hid ((Kept.refl NoB w).alloc (.cells #[.int .i64 n, .int .i64 b] 44))
  have HB0 := Lib.hid (heap_alloc_new w (.cells #[.int .i64 n, .int .i64 b] 44))
  obtain ⟨c0, c1⟩ := cell2_30 HB0.out
  clear h hb hIB hr
  go_enter Try.func32, Try.ntmps32
  go_wp2_with (first
    | (go_at_call 17; refine (HR.out _).mono ?_; rintro e w0 ⟨rfl, hk0⟩; have HKR := Lib.hid (HK0.out.trans hk0 (fun _ _ h => h)); have HBR := Lib.hid (hk0.heap (fun h => h) HB0.out); have HB1 := Lib.hid (HB.out.kept HKR.out (fun _ _ h => h)); clear hk0 c0 c1)
    | (go_at_call 39; refine (Of_any _ bs F _ HB1.out hl).mono ?_; rintro e w1 ⟨g, rfl, hg1, hg2, hin, hk⟩; have HI := Lib.hid hin; have HK1 := Lib.hid hk; clear hin hk)
    | (go_at_call 40; refine (HU1.out _ _ _ HI.out).mono ?_; rintro e w3 ⟨rfl, hin, hk⟩; replace HI := Lib.hid hin; clear hin; have HK3 := Lib.hid hk; clear hk)
    | (at_make; refine wpList_make_full _ rfl (.tmp 19) (.tmp 19) 56 rfl w3.heap.size 101 i0 _ 3 Try.underlying56 hi0 hz0 hz1 .u64 .u64 _ _ nn rfl rfl rfl rfl (by rw [hz2]; omega) (by unfold maxLen; omega) (Nat.le_refl _) ?_; intro w4 hown hgrow; have HOW := Lib.hid hown; have hkm : Kept NoB w3 w4 := (Kept.refl NoB w3).grown hgrow (fun k hk => by cases hk); have HKM := Lib.hid hkm; replace HI := Lib.hid (HI.out.kept hkm (fun _ _ h => h) (fun h => h)); clear hown hgrow hkm))
  have hz1s := HK1.out.size
  have hz3s := HK3.out.size
  have hz4s := HKM.out.size
  have hrow : RowP 101 w4 w3.heap.size (List.replicate nn (0, 0, none, 0, 0)) := RowP.made HOW.out
  have hk04 : Kept (fun i => w0.heap.size ≤ i) w0 w4 := (((HK1.out.mono (T := fun i => w0.heap.size ≤ i) (fun _ _ h => h.elim)).trans HK3.out (fun i hi h => by have h : i = g := h; omega)).trans HKM.out (fun i hi h => h.elim))
  have hwb : w.heap.size < w0.heap.size := heap_lt HBR.out
  have hbox := hk04.heap (fun h => by have h : w0.heap.size ≤ w.heap.size := h; omega) HBR.out
  have hin6 := HI.out
  obtain ⟨FI, hFI⟩ : ∃ FI : Nat → Prop, FI = (fun k => w0.heap.size ≤ k ∧ k < g) := ⟨_, rfl⟩
  rw [← hFI] at hin6
  have HFI : Hid (∀ k, FI k → w0.heap.size ≤ k ∧ k < g) := Lib.hid (fun k h => by rw [hFI] at h; exact h)
  obtain ⟨r, hr⟩ : ∃ r, r = w3.heap.size := ⟨_, rfl⟩
  have hrg : g < r := by omega
  rw [← hr] at hrow ⊢
  have hrw : r < w4.heap.size := heap_lt hrow
  have H0 : Hid (VGetRel w0 w FI g r nn S n b (.int .i64 0) w4) := Lib.hid ⟨0, _, Nat.zero_le _, rfl, List.length_replicate, Dat.nil _ _, hrow, hin6, hbox, hk04⟩
  have hgW : w0.heap.size ≤ g := by omega
  have hWZ : w.heap.size < g := by omega
  clear hk04 hrow hin6 hFI HI HOW HKM HK1 HK3 hr hbox hrw hz1s hz3s hz4s
  go_wp2_with fail
  go_loopw [8, 23] (fun _ i wr => VGetRel w0 w FI g r nn S n b i wr) (fun _ i _ => nn - (RowKit.intOf i).toNat)
  case atStart => exact H0.out
  case round =>
    obtain ⟨k, ps, hk, rfl, hpl, hdt, hrow, hi, hbox, hK⟩ := hrel
    have hk0 : (0 : Int) ≤ (k : Int) := by omega
    have HPL := Lib.hid hpl
    have HDT := Lib.hid hdt
    have HRW := Lib.hid hrow
    have HI0 := Lib.hid hi
    have HBX := Lib.hid hbox
    have HK := Lib.hid hK
    by_cases hlt : k < nn
    · have hk1 : (k : Int) < (nn : Int) := by omega
      have HG1 : Hid (gqs30 (k + 1) S = ((gq30 (gqs30 k S).1).1, (gqs30 k S).2 ++ [(gq30 (gqs30 k S).1).2])) := Lib.hid rfl
      have hB0 := HBS.out k
      obtain ⟨t0, ht0⟩ : ∃ t, t = (gqs30 k S).1 := ⟨_, rfl⟩
      obtain ⟨L, hL⟩ : ∃ t, t = (gqs30 k S).2 := ⟨_, rfl⟩
      rw [← ht0, ← hL] at HG1
      rw [← ht0] at HI0 hB0
      rw [← hL] at HDT
      obtain ⟨t1, ht1⟩ : ∃ t, t = (t0.get 4).1 := ⟨_, rfl⟩
      obtain ⟨v1, hv1⟩ : ∃ v, v = (t0.get 4).2 := ⟨_, rfl⟩
      obtain ⟨t2, ht2⟩ : ∃ t, t = (t1.get 8).1 := ⟨_, rfl⟩
      obtain ⟨v2, hv2⟩ : ∃ v, v = (t1.get 8).2 := ⟨_, rfl⟩
      obtain ⟨t3, ht3⟩ : ∃ t, t = (t2.text 64).1 := ⟨_, rfl⟩
      obtain ⟨d3, hd3⟩ : ∃ v, v = (t2.text 64).2 := ⟨_, rfl⟩
      have HGX : Hid (gq30 t0 = (t3, (v1, v2, d3))) := Lib.hid (by unfold gq30; rw [← ht1, ← ht2, ← hv1, ← hv2, ← ht3, ← hd3])
      have hb1 : 0 ≤ v1 ∧ v1 < 4294967296 := by have := get_le28 (w := 4) hB0 (by omega) (by omega); rw [show (((4 : Nat) : Int)) = 4 from rfl, ← hv1] at this; exact this
      have hw1 : IntKind.u32.wrap v1 = v1 := IntWalk.u32_in _ (by omega)
      have HC0 : Hid (∀ w', InAt w' FI g t0 → Calls Try.prog 41 #[.pointer (some ⟨g, 0, none⟩), .int .i64 4] w' fun r w'' => r = .returned (.int .u64 v1) ∧ InAt w'' FI g t1 ∧ Kept (Only g) w' w'') := Lib.hid (fun w' h => by rw [hv1, ht1]; exact Get_any g t0 4 FI w' h)
      have HC1 : Hid (∀ w', InAt w' FI g t1 → Calls Try.prog 41 #[.pointer (some ⟨g, 0, none⟩), .int .i64 8] w' fun r w'' => r = .returned (.int .u64 v2) ∧ InAt w'' FI g t2 ∧ Kept (Only g) w' w'') := Lib.hid (fun w' h => by rw [hv2, ht2]; exact Get_any g t1 8 FI w' h)
      have HC2 : Hid (∀ w', InAt w' FI g t2 → Calls Try.prog 61 #[.pointer (some ⟨g, 0, none⟩), .int .i64 64] w' fun r w'' => ∃ v, r = .returned v ∧ InAt w'' FI g t3 ∧ BSl w'' FI v d3 ∧ Kept (Only g) w' w'') := Lib.hid (fun w' h => by rw [hd3, ht3]; exact InText_any g t2 64 FI w' h)
      clear hpl hdt hrow hi hbox hK ht0 hL hB0 ht1 ht2 ht3 hv1 hv2 hd3
      go_wp2_with fail
      refine (HC0.out wr HI0.out).mono ?_
      rintro e g1 ⟨rfl, hi1, hk1'⟩
      have HIx1 := Lib.hid hi1
      have HKx1 := Lib.hid hk1'
      clear hi1 hk1'
      go_wp2_with fail
      refine (HC1.out g1 HIx1.out).mono ?_
      rintro e g2 ⟨rfl, hi2, hk2'⟩
      have HIx2 := Lib.hid hi2
      have HKx2 := Lib.hid (HKx1.out.trans hk2' (fun _ _ h => h))
      clear hi2 hk2'
      go_wp2_with fail
      refine (HC2.out g2 HIx2.out).mono ?_
      rintro e g3 ⟨u, rfl, hi3, hu3, hk3'⟩
      have HIx3 := Lib.hid hi3
      have HKx3 := Lib.hid (HKx2.out.trans hk3' (fun _ _ h => h))
      have HU3 := Lib.hid hu3
      obtain ⟨ua, uc, rfl, _⟩ := hu3
      obtain ⟨un, hun⟩ : ∃ un, un = d3.length := ⟨_, rfl⟩
      have HUN := Lib.hid hun
      rw [← hun]
      have HR3 : Hid (RowP 101 g3 r ps) := Lib.hid (HKx3.out.heap (fun h => by have h : r = g := h; omega) HRW.out)
      obtain ⟨z0, z1, z2⟩ := HR3.out.at_ (j := k) (by rw [HPL.out]; exact hlt)
      have fz0 := frz3 HR3.out (k * 3)
      have fz1 := frz3 HR3.out (k * 3 + 1)
      have fz2 := frz3 HR3.out (k * 3 + 1 + 1)
      have HSET := Lib.hid (HR3.out.set k (by rw [HPL.out]; exact hlt) (v1, v2, ua, un, uc))
      clear hi3 hk3' hun
      go_wp2_with fail
      have hS := set3r_kept g3 r (k * 3) (k * 3 + 1) (k * 3 + 1 + 1) (.int .u32 v1) (.int .u64 v2) (.slice ua un uc)
      have hFr : ∀ i, FI i → ¬ i = r := fun i hi h => by have := HFI.out i hi; omega
      have hFg : ∀ i, FI i → ¬ Only g i := fun i hi h => by have h : i = g := h; have := HFI.out i hi; omega
      go_roundw
      case rel =>
        refine ⟨k + 1, ps.set k (v1, v2, ua, un, uc), by omega, by go_num, by rw [List.length_set, HPL.out], ?_, HSET.out, ?_, (HKx3.out.heap (fun h => by have h : w.heap.size = g := h; omega) HBX.out |> fun hh => hS.heap (fun h => by have h : w.heap.size = r := h; omega) hh), (HK.out.trans HKx3.out (fun i _ h => by have h : i = g := h; omega)).trans hS (fun i hi h => by have h : i = r := h; omega)⟩
        · rw [HG1.out, HGX.out]
          have e1 : List.take (k + 1) (ps.set k (v1, v2, ua, un, uc)) = ps.take k ++ [(v1, v2, ua, un, uc)] := by
            rw [List.take_succ_eq_append_getElem (by rw [List.length_set, HPL.out]; exact hlt), List.take_set_of_le (Nat.le_refl _)]
            simp
          rw [e1]
          have hd1 := (HDT.out.kept HKx3.out hFg).kept hS hFr
          have hd2 := hd1.snoc v1 v2 ua uc d3 (HU3.out.kept hS hFr)
          rw [← HUN.out] at hd2
          exact hd2
        · rw [HG1.out, HGX.out]
          exact HIx3.out.kept hS hFr (fun h => by have h : g = r := h; omega)
      case measure => simp [RowKit.intOf]; omega
    · obtain rfl : k = nn := by omega
      rw [List.take_of_length_le (by omega)] at HDT
      have HBD2 := Lib.hid (HBD.out k)
      obtain ⟨s2, hs2⟩ : ∃ s2, s2 = (gqs30 k S).1 := ⟨_, rfl⟩
      obtain ⟨L, hL⟩ : ∃ t, t = (gqs30 k S).2 := ⟨_, rfl⟩
      have hLl : L.length = k := by rw [hL]; exact gqs_len30 k S
      rw [← hs2, ← hL] at HG
      rw [← hs2] at HI0
      rw [← hL] at HDT HBD2
      have hxs : PSl wr (fun i => w.heap.size ≤ i) (fun _ => True) (.slice (some ⟨r, 0, none⟩) k k) L := ⟨ps, by
        have := HRW.out.sl (F := fun i => w.heap.size ≤ i) (c := k) (by show w.heap.size ≤ r; omega) (by omega) (by unfold maxLen; omega)
        rwa [hpl] at this, HDT.out.mono (fun _ _ _ => trivial)⟩
      have HXS := Lib.hid hxs
      have hkw : Kept NoB w wr := HKR.out.trans HK.out (fun i hi h => absurd h (by show ¬ w0.heap.size ≤ i; omega))
      have HKW := Lib.hid hkw
      have HDN := Lib.hid (InDone_any g s2 FI wr HI0.out)
      obtain ⟨dn, hdn⟩ : ∃ d, d = s2.done := ⟨_, rfl⟩
      rw [← hdn] at HG HDN
      obtain ⟨c0, c1⟩ := cell2_30 HBX.out
      clear hxs hkw hpl hdt hrow hi hbox hK hs2 hL hdn
      by_cases hd : dn = 0
      · rw [if_neg (fun h => h hd)] at HG
        rw [hd] at HDN
        by_cases hz : k = 0
        · have hLz : L = [] := List.eq_nil_of_length_eq_zero (by omega)
          rw [if_pos (.inl hLz)] at HG
          have g4 : ((k : Int) == 0) = true := by rw [hz]; rfl
          clear hd hLz hLl hz hlt hk
          go_wp2_with (go_at_call 42; refine HDN.out.mono ?_; rintro e w9 ⟨rfl, rfl⟩)
          exact bodyPost_ret (v := .tuple #[.slice none 0 0, .int .i64 4]) (by simp [results, Try.results32, go_sem]) rfl (by rw [HG.out]; exact GetE30.nil rfl HKW.out)
        · have hLz : L ≠ [] := fun h => hz (by rw [← hLl, h]; rfl)
          have g4 : ((k : Int) == 0) = false := by simpa using hz
          have HCH := Lib.hid (vCheck_any n b _ L _ _ wr HXS.out (fun j hj => (HBD2.out j (by omega)).1))
          by_cases hc : chkP n b L = 0
          · rw [if_neg (fun h => h.elim hLz (fun h => h hc))] at HG
            rw [hc] at HCH
            clear hd hc hLz hz hLl hlt hk
            go_wp2_with (first
              | (go_at_call 42; refine HDN.out.mono ?_; rintro e w9 ⟨rfl, rfl⟩)
              | (go_at_call 25; refine HCH.out.mono ?_; rintro e w9 ⟨rfl, hk⟩; have HX9 := Lib.hid (HXS.out.no hk); have HK9 := Lib.hid (HKW.out.trans hk (fun _ _ h => h)); clear hk c0 c1))
            exact bodyPost_ret (v := .tuple #[.slice (some ⟨r, 0, none⟩) k k, .int .i64 0]) (by simp [results, Try.results32, go_sem]) rfl (by rw [HG.out]; exact ⟨_, rfl, HX9.out, HK9.out⟩)
          · rw [if_pos (.inr hc)] at HG
            have hne : (chkP n b L != 0) = true := bne_iff_ne.2 hc
            obtain ⟨er, her⟩ : ∃ er, er = chkP n b L := ⟨_, rfl⟩
            rw [← her] at HCH hne
            clear hd hc her hLz hz hLl hlt hk
            go_wp2_with (first
              | (go_at_call 42; refine HDN.out.mono ?_; rintro e w9 ⟨rfl, rfl⟩)
              | (go_at_call 25; refine HCH.out.mono ?_; rintro e w9 ⟨rfl, hk⟩; have HK9 := Lib.hid (HKW.out.trans hk (fun _ _ h => h)); clear hk c0 c1))
            exact bodyPost_ret (v := .tuple #[.slice none 0 0, .int .i64 4]) (by simp [results, Try.results32, go_sem]) rfl (by rw [HG.out]; exact GetE30.nil rfl HK9.out)
      · rw [if_pos hd] at HG
        have hne : (dn != 0) = true := bne_iff_ne.2 hd
        clear hd hLl hlt hk
        go_wp2_with (go_at_call 42; refine HDN.out.mono ?_; rintro e w9 ⟨rfl, rfl⟩)
        exact bodyPost_ret (v := .tuple #[.slice none 0 0, .int .i64 dn]) (by simp [results, Try.results32, go_sem]) rfl (by rw [HG.out]; exact GetE30.nil rfl HKW.out)
theorem vGet_any (n b : Int) (v : Value) (bs : List Int) (F : Nat → Prop) (w : World) (h : BSl w F v bs) (hl : bs.length ≤ 1000000) :
    Calls Try.prog 32 #[.agg #[.int .i64 n, .int .i64 b], v] w (GetE30 (gotP n b bs).1 (gotP n b bs).2 w) := by
  by_cases hb : bs.length = 0
  · obtain ⟨a, cap, rfl, _⟩ := h
    obtain rfl : bs = [] := List.eq_nil_of_length_eq_zero hb
    have hg : gotP n b [] = (0, []) := by unfold gotP; rw [if_pos rfl]
    rw [hg]
    have HK0 := Lib.hid ((Kept.refl NoB w).alloc (.cells #[.int .i64 n, .int .i64 b] 44))
    clear hb hg hl
    go_enter Try.func32, Try.ntmps32
    go_wp2_with fail
    exact bodyPost_ret (v := .tuple #[.slice none 0 0, .int .i64 0]) (by simp [results, Try.results32, go_sem]) rfl (GetE30.nil rfl HK0.out)
  · by_cases hr : rgt30 n b
    · exact vGet_some n b v bs F w h hl hb hr
    · have hbz2 : ((bs.length : Int) == 0) = false := by simpa using hb
      have hg : gotP n b bs = (1, []) := by unfold gotP; rw [if_neg (fun h => hb (by rw [h]; rfl)), if_pos hr]
      rw [hg]
      have HR := Lib.hid (fun w => vRight_any n b w)
      rw [decide_eq_false hr] at HR
      have HB := Lib.hid h
      obtain ⟨a, cap, rfl, _⟩ := id h
      have HK0 := Lib.hid ((Kept.refl NoB w).alloc (.cells #[.int .i64 n, .int .i64 b] 44))
      have HB0 := Lib.hid (heap_alloc_new w (.cells #[.int .i64 n, .int .i64 b] 44))
      obtain ⟨c0, c1⟩ := cell2_30 HB0.out
      clear hb hg hl hr h
      go_enter Try.func32, Try.ntmps32
      go_wp2_with (go_at_call 17; refine (HR.out _).mono ?_; rintro e w0 ⟨rfl, hk0⟩; have HKR := Lib.hid (HK0.out.trans hk0 (fun _ _ h => h)); have HBR := Lib.hid (hk0.heap (fun h => h) HB0.out); have HB1 := Lib.hid (HB.out.kept HKR.out (fun _ _ h => h)); clear hk0 c0 c1)
      exact bodyPost_ret (v := .tuple #[.slice none 0 0, .int .i64 1]) (by simp [results, Try.results32, go_sem]) rfl (GetE30.nil rfl HKR.out)
end Go.Proofs.Ytiifkcjngajegaa
