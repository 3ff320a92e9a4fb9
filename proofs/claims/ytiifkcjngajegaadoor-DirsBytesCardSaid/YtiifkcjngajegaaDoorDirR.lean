/-
  Layer 29: Get of the chapter.
-/
import Derived.Test.YtiifkcjngajegaaDoorDirQ
namespace Go.Proofs.YtiifkcjngajegaaDoor
open Go.RowKit
set_option linter.unusedVariables false

theorem sub29 {w : World} {F : Nat → Prop} {b o n cap i m : Nat} {l : List Int} (h : BSl w F (.slice (some ⟨b, o, none⟩) n cap) l) (hn : n = l.length) (him : i + m ≤ l.length) : BSl w F (.slice (some ⟨b, o + i, none⟩) m (cap - i)) ((l.drop i).take m) := by
  obtain ⟨a, c, he, h1, h2, h3, h4, h5⟩ := h
  injection he with he1 he2 he3
  subst he1 he3
  have hlen : ((l.drop i).take m).length = m := by rw [List.length_take, List.length_drop]; omega
  refine ⟨_, _, by rw [hlen], by rw [hlen]; omega, by omega, (fun h => by cases h), fun z hz => h4 z (List.mem_of_mem_drop (List.mem_of_mem_take hz)), fun hp => ?_⟩
  obtain ⟨b', o', e, hF, hb, hc⟩ := h5 (by rw [hlen] at hp; omega)
  cases e
  refine ⟨b, o + i, rfl, hF, hb, fun j hj => ?_⟩
  rw [hlen] at hj
  have := hc (i + j) (by omega)
  rw [Nat.add_assoc, this]
  simp [List.getD_eq_getElem?_getD, List.getElem?_drop, hj]
theorem EOwn.row29 {t : TypeId} {B : Nat} {w : World} {v : Value} {l : List En} (h : EOwn t B w v l) : ∀ k, v.ownBlock = some k → B ≤ k := by
  intro k hk
  rcases h.2 with ⟨rfl, _⟩ | ⟨r, cap, cur, rfl, hb, _⟩
  · cases hk
  · injection hk with hk
    replace hk : r = k := hk
    omega
def RGetRel (W : World) (bs : List Int) (nn : Nat) (ov iv : Value) (wr : World) : Prop :=
  ∃ (k : Nat) (a : Option Addr) (c : Nat) (L : List En), k ≤ nn ∧ iv = .int .i64 ((16 * k : Nat) : Int) ∧ ov = .slice a k c ∧ EOwn 45 W.heap.size wr ov L ∧ L.length = k ∧ entsR nn bs = (entsR (nn - k) (bs.drop (16 * k))).map (fun r => L ++ r) ∧ (∀ p ∈ L, p.1.length ≤ 11) ∧ Kept (fun i => W.heap.size ≤ i) W wr
set_option maxRecDepth 100000 in
set_option maxHeartbeats 20000000 in
theorem rGet29_any (v : Value) (bs : List Int) (F : Nat → Prop) (W : World) (h : BSl W F v bs) (hF : ∀ k, F k → k < W.heap.size) (hl : bs.length ≤ 1000000) :
    Calls Tryd.prog 20 #[v] W (GetE29 (gotE bs).1 (gotE bs).2 W) := by
  obtain ⟨i0, hi0, hz0, hz1, hz2⟩ := info_parts info_ren
  obtain ⟨a, cap, rfl, q1, q2, q3, q4⟩ := id h
  have hIB := h.isB
  have HB := Lib.hid h
  by_cases h5 : 512 < bs.length
  · have hg : gotE bs = (17, []) := by unfold gotE; rw [if_pos h5]
    rw [hg]
    have g1 : (512 : Int) < (bs.length : Int) := by omega
    clear h5 hg h hl hIB q1 q2 q3 q4
    go_enter Tryd.func20, Tryd.ntmps20
    go_wp2
    exact bodyPost_ret (v := .tuple #[.slice none 0 0, .int .i64 17]) (by simp [results, Tryd.results20, go_sem]) rfl (GetE29.nil rfl (Kept.refl _ _))
  · by_cases h16 : bs.length % 16 ≠ 0
    · have hg : gotE bs = (3, []) := by unfold gotE; rw [if_neg h5, if_pos h16]
      rw [hg]
      have g1 : (bs.length : Int) ≤ 512 := by omega
      have g2 : decide ((512 : Int) < (bs.length : Int)) = false := decide_eq_false (by omega)
      have g5 : ((bs.length : Int) % 16 != 0) = true := by simpa using (show ¬ (bs.length : Int) % 16 = 0 by omega)
      clear h5 h16 hg h hl hIB q1 q2 q3 q4
      go_enter Tryd.func20, Tryd.ntmps20
      go_wp2
      exact bodyPost_ret (v := .tuple #[.slice none 0 0, .int .i64 3]) (by simp [results, Tryd.results20, go_sem]) rfl (GetE29.nil rfl (Kept.refl _ _))
    · have hge : gotE bs = match entsR (bs.length / 16) bs with | none => (4, []) | some l => if chkE l = 0 ∧ bytEs l = bs then (0, l) else (4, []) := by unfold gotE; rw [if_neg h5, if_neg h16]; rfl
      obtain ⟨nn, hnn⟩ : ∃ n, n = bs.length / 16 := ⟨_, rfl⟩
      rw [← hnn] at hge
      have HG := Lib.hid hge
      have hlen : bs.length = 16 * nn := by omega
      have hn32 : nn ≤ 32 := by omega
      obtain ⟨NB, hNB⟩ : ∃ n, n = bs.length := ⟨_, rfl⟩
      rw [← hNB] at hlen h5 h16 HB q1 ⊢
      have HNB := Lib.hid hNB
      have g1 : (NB : Int) ≤ 512 := by omega
      have g2 : decide ((512 : Int) < (NB : Int)) = false := decide_eq_false (by omega)
      have e3 : (NB : Int) % 16 = 0 := by omega
      have HI := Lib.hid hIB
      have HLEN := Lib.hid hlen
      have HRD := Lib.hid q4
      have HQ1 := Lib.hid q1
      clear hlen hl h5 h16 hnn h hNB hIB hge q1 q2 q3 q4
      go_enter Tryd.func20, Tryd.ntmps20
      go_wp2_with fail
      clear e3
      go_loopw [4, 5] (fun u i wr => RGetRel W bs nn u i wr) (fun _ i _ => NB - (RowKit.intOf i).toNat)
      case atStart => exact ⟨0, _, _, [], Nat.zero_le _, rfl, rfl, EOwn.nil _ _ _, rfl, by show entsR nn bs = (entsR nn bs).map _; cases entsR nn bs <;> simp, (fun _ h => by cases h), Kept.refl _ _⟩
      case round =>
        obtain ⟨k, oa, oc, L, hk, rfl, rfl, hown, hLk, hent, hnm, hK⟩ := hrel
        have HK := Lib.hid hK
        have HO := Lib.hid hown
        have HENT := Lib.hid hent
        have HLK := Lib.hid hLk
        have HNM := Lib.hid hnm
        obtain ⟨J, hJ⟩ : ∃ J, J = 16 * k := ⟨_, rfl⟩
        rw [← hJ] at hent ⊢
        have HJ := Lib.hid hJ
        have hJ0 : (0 : Int) ≤ (J : Int) := by omega
        by_cases hlt : k < nn
        · have hJN : J + 16 ≤ NB := by have := HLEN.out; omega
          have hJ1 : (J : Int) < (NB : Int) := by omega
          have hJb : J < bs.length := by have := HNB.out; omega
          have hJb16 : J + 16 ≤ bs.length := by have := HNB.out; omega
          have hr := (HRD.out.kept HK.out (fun i hi h => by have := hF i hi; omega)).at_ hJb
          obtain ⟨bb, oo, rfl, hFb, hbb, hc0⟩ := hr
          have hx := HI.out _ (show bs.getD J 0 ∈ bs by rw [List.getD_eq_getElem?_getD, List.getElem?_eq_getElem hJb]; exact List.getElem_mem hJb)
          have hr0 : rowE (bs.drop J) = (bytesU ((bs.drop (J + 1)).take (bs.getD J 0).toNat), (num ((bs.drop (J + 12)).take 4) : Int)) := by
            unfold rowE
            rw [List.drop_drop, List.drop_drop]
            simp [List.getD_eq_getElem?_getD, List.getElem?_drop]
          have hes : entsR (nn - k) (bs.drop J) = if 11 < bs.getD J 0 then none else (entsR (nn - k - 1) (bs.drop (J + 16))).map (rowE (bs.drop J) :: ·) := by
            rw [show nn - k = (nn - k - 1) + 1 by omega, entsR, List.drop_drop]
            simp [List.getD_eq_getElem?_getD, List.getElem?_drop]
          obtain ⟨x, hxe⟩ : ∃ x, x = bs.getD J 0 := ⟨_, rfl⟩
          rw [← hxe] at hc0 hx hr0 hes
          obtain ⟨xn, rfl⟩ := Int.eq_ofNat_of_zero_le hx.1
          rw [Int.toNat_natCast] at hr0
          have hx256 : (xn : Int) < 256 := hx.2
          have hx0 : (0 : Int) ≤ (xn : Int) := by omega
          have wx : IntKind.i64.wrap (xn : Int) = (xn : Int) := IntWalk.i64_in _ (by omega)
          by_cases h11 : 11 < (xn : Int)
          · rw [if_pos h11] at hes
            rw [hes] at hent
            have HG2 : Hid (gotE bs = (4, [])) := Lib.hid (by rw [HG.out, hent]; rfl)
            clear hes hent hr0 hxe hJb hJb16 hFb hbb hown hK hk hx hJ hLk hnm
            go_wp2_with fail
            exact bodyPost_ret (v := .tuple #[.slice none 0 0, .int .i64 4]) (by simp [results, Tryd.results20, go_sem]) rfl (by rw [HG2.out]; exact GetE29.nil rfl (kept_new29 HK.out))
          · rw [if_neg h11] at hes
            have g11 : (xn : Int) ≤ 11 := by omega
            obtain ⟨A1, hA1⟩ : ∃ q, q = J + 1 := ⟨_, rfl⟩
            obtain ⟨A2, hA2⟩ : ∃ q, q = J + 1 + xn := ⟨_, rfl⟩
            obtain ⟨B1, hB1⟩ : ∃ q, q = J + 12 := ⟨_, rfl⟩
            obtain ⟨B2, hB2⟩ : ∃ q, q = J + 16 := ⟨_, rfl⟩
            have w1 : IntKind.i64.wrap ((J : Int) + 1) = (A1 : Int) := by rw [IntWalk.i64_in _ (by omega)]; omega
            have w2 : IntKind.i64.wrap ((A1 : Int) + (xn : Int)) = (A2 : Int) := by rw [IntWalk.i64_in _ (by omega)]; omega
            have w3 : IntKind.i64.wrap ((J : Int) + 12) = (B1 : Int) := by rw [IntWalk.i64_in _ (by omega)]; omega
            have w4 : IntKind.i64.wrap ((J : Int) + 16) = (B2 : Int) := by rw [IntWalk.i64_in _ (by omega)]; omega
            have hcapN := HQ1.out
            have b1 : (0 : Int) ≤ (A1 : Int) := by omega
            have b2 : (A1 : Int) ≤ (A2 : Int) := by omega
            have b3 : (A2 : Int) ≤ (cap : Int) := by omega
            have b4 : (0 : Int) ≤ (B1 : Int) := by omega
            have b5 : (B1 : Int) ≤ (B2 : Int) := by omega
            have b6 : (B2 : Int) ≤ (cap : Int) := by omega
            have b7 : ¬ cap = A1 := by omega
            have b8 : ¬ cap = B1 := by omega
            have b9 : A2 - A1 = xn := by omega
            have b10 : B2 - B1 = 4 := by omega
            have HBK := Lib.hid (HB.out.kept HK.out (fun i hi h => by have := hF i hi; omega))
            have HS1 := Lib.hid (sub29 (i := A1) (m := xn) HBK.out HNB.out (by omega))
            have HS2 := Lib.hid (sub29 (i := B1) (m := 4) HBK.out HNB.out (by omega))
            have HA2 := Lib.hid hA2
            rw [← hA1, ← hB1] at hr0
            have HR0 := Lib.hid hr0
            rw [hes, ← hB2] at hent
            have HEN2 := Lib.hid hent
            have HB2 := Lib.hid hB2
            obtain ⟨sx, hsx⟩ : ∃ sx : ByteArray, sx = ⟨(bytesU ((bs.drop A1).take xn)).toArray⟩ := ⟨_, rfl⟩
            have HSX := Lib.hid hsx
            have HCV : Hid (∀ w', BSl w' F (.slice (some ⟨bb, oo + A1, none⟩) xn (cap - A1)) ((bs.drop A1).take xn) → (convert 29 9 (.slice (some ⟨bb, oo + A1, none⟩) xn (cap - A1))).run Tryd.prog w' = .ok (.string sx) w') := Lib.hid (fun w' h => by rw [HSX.out]; exact h.conv29 29 5 9 Tryd.underlying29 Tryd.underlying5 Tryd.underlying9)
            clear hes hent hr0 hxe hJb hJb16 hFb hbb hown hK hk hx hJ hLk hnm hA1 hA2 hB1 hB2 hcapN hsx
            have HN8 := Lib.hid (Num_any _ _ F wr.drew (HS2.out.kept (Kept.refl NoB wr).drew (fun _ _ h => h)) (by rw [List.length_take]; omega))
            have hnl : num ((bs.drop B1).take 4) < 4294967296 := Nat.lt_of_lt_of_le (num_lt _ (fun z hz => HI.out z (List.mem_of_mem_drop (List.mem_of_mem_take hz)))) (Nat.le_trans (Nat.pow_le_pow_right (by decide) (show ((bs.drop B1).take 4).length ≤ 4 by rw [List.length_take]; omega)) (by decide : 256 ^ 4 ≤ 4294967296))
            obtain ⟨nd, hnd⟩ : ∃ q : Nat, q = num ((bs.drop B1).take 4) := ⟨_, rfl⟩
            rw [← hnd] at HN8 HR0 hnl
            have wn : IntKind.i64.wrap (nd : Int) = (nd : Int) := IntWalk.i64_in _ (by omega)
            obtain ⟨xs, hxs⟩ : ∃ q, q = bytesU ((bs.drop A1).take xn) := ⟨_, rfl⟩
            have hxl : xs.length ≤ 11 := by rw [hxs, bytesU_len, List.length_take]; omega
            rw [← hxs] at HR0 HSX
            have HXL := Lib.hid hxl
            have hka : Kept NoB wr (wr.drew.alloc (.cells #[.string sx, .int .i64 (nd : Int)] 45)) := (Kept.refl NoB wr).drew.alloc _
            have HOA := Lib.hid (HO.out.no hka)
            have HEB : Hid ((wr.drew.alloc (.cells #[.string sx, .int .i64 (nd : Int)] 45)).heap[wr.heap.size]? = some (.cells #[.string ⟨xs.toArray⟩, .int .i64 (nd : Int)] 45 (0, 0))) := Lib.hid (by rw [← HSX.out]; exact heap_alloc_new wr.drew _)
            have HKA := Lib.hid (HK.out.drew.alloc (.cells #[.string sx, .int .i64 (nd : Int)] 45))
            have HSA := Lib.hid (HS1.out.kept hka (fun _ _ h => h))
            have HSD := Lib.hid (HS1.out.kept (Kept.refl NoB wr).drew (fun _ _ h => h))
            have hL9 : L.length ≤ 100000 := by rw [HLK.out]; omega
            have HL9 := Lib.hid hL9
            clear hnd hxs hka hxl hL9 hnl
            go_wp2_with fail
            go_region_held3 (fun w' => (convert 29 9 (.slice (some ⟨bb, oo + A1, none⟩) xn (cap - A1))).run Tryd.prog w' = .ok (.string sx) w')
              (first
                | exact HCV.out _ HSD.out
                | exact HCV.out _ HSA.out
                | exact HCV.out _ HSG.out)
              (first
                | (go_at_call 49; refine HN8.out.mono ?_; rintro e w6 ⟨rfl, rfl⟩)
                | (refine step_append_e Tryd.underlying22 hi0 hz0 hz1 hz2 rfl _ (by rfl) _ _ (by rfl) W.heap.size _ L (by rfl) HOA.out wr.heap.size (xs, (nd : Int)) (by rfl) HEB.out HL9.out HKA.out.size ?_; intro a7 c7 w7 ho7 hg7; have HO7 := Lib.hid ho7; have hk7 := (Kept.refl (fun i => W.heap.size ≤ i) _).grown hg7 (fun i hi => .inl (HOA.out.row29 i hi)); have HK7 := Lib.hid (HKA.out.trans hk7 (fun _ _ h => h)); have HSG := Lib.hid (HSA.out.kept hk7 (fun i hi h => by have := hF i hi; omega)); clear ho7 hg7 hk7)
                | fail)
            go_wp2_with fail
            have hj := HJ.out
            have hb2 := HB2.out
            refine ⟨⟨k + 1, a7, c7, L ++ [(xs, (nd : Int))], by omega, ?_, by rw [HLK.out], HO7.out, by rw [List.length_append, HLK.out]; rfl, ?_, ?_, HK7.out⟩, ?_⟩
            · rw [show 16 * (k + 1) = B2 by omega]
            · rw [HEN2.out, HR0.out, show 16 * (k + 1) = B2 by omega, show nn - (k + 1) = nn - k - 1 by omega, Option.map_map]
              congr 1
              funext q
              simp
            · intro p hp
              rcases List.mem_append.1 hp with hp | hp
              · exact HNM.out p hp
              · rw [List.mem_singleton] at hp
                rw [hp]
                exact HXL.out
            · simp [RowKit.intOf]; omega
        · obtain rfl : k = nn := by omega
          have hJN : J = NB := by have := HLEN.out; omega
          subst hJN
          rw [Nat.sub_self] at hent
          have hent : entsR k bs = some L := by rw [hent, entsR]; simp
          have hge := HG.out
          rw [hent] at hge
          have hge : gotE bs = if chkE L = 0 ∧ bytEs L = bs then (0, L) else (4, []) := hge
          have hes := hown.sl
          rw [← hLk] at hes
          have hes := hown.sl
          have HXS := Lib.hid hes
          have HCK := Lib.hid (rCheck29_any _ L _ wr hes (fun j hj => Nat.le_trans (hnm _ (eth_mem hj)) (by decide)))
          have HBW := Lib.hid (HB.out.kept HK.out (fun i hi h => by have := hF i hi; omega))
          have HBY := Lib.hid (fun (w : World) (hz : chkE L = 0) (h : ESl w (fun i => W.heap.size ≤ i) (.slice oa k oc) L) => RBytes29_any _ L _ w h hz)
          obtain ⟨er, her⟩ : ∃ q, q = chkE L := ⟨_, rfl⟩
          rw [← her] at HCK hge HBY
          clear hent hes hown hnm hLk hK hk hlt her hJ hJ0
          by_cases hz : er = 0
          · rw [hz] at HCK hge
            have HBZ := Lib.hid (fun (w : World) (h : ESl w (fun i => W.heap.size ≤ i) (.slice oa k oc) L) => HBY.out w hz h)
            by_cases hq : bytEs L = bs
            · rw [if_pos ⟨rfl, hq⟩] at hge
              have HGE := Lib.hid hge
              have HSM : Hid (∀ v u F G w, BSl w F v (bytEs L) → BSl w G u bs → Calls Tryd.prog 16 #[v, u] w fun e w' => e = .returned (.bool true) ∧ Kept NoB w w') := Lib.hid (fun v u F G w h k => (Same_any v u _ _ F G w h k).mono fun e w' hh => ⟨by rw [hh.1, decide_eq_true hq], hh.2⟩)
              clear hge hz hq
              go_wp2_with (first
                | (go_at_call 12; refine HCK.out.mono ?_; rintro e w7 ⟨rfl, hk⟩; have HX7 := Lib.hid (HXS.out.no hk); have HB7 := Lib.hid (HBW.out.no29 hk); have HK7 := Lib.hid ((kept_new29 HK.out).trans hk (fun _ _ h => h)); have HKR7 := Lib.hid hk; clear hk)
                | (go_at_call 17; refine (HBZ.out _ HX7.out).mono ?_; rintro e w8 ⟨pv, rfl, hb, hk⟩; have HP8 := Lib.hid hb; have HX8 := Lib.hid (HX7.out.no hk); have HB8 := Lib.hid (HB7.out.no29 hk); have HK8 := Lib.hid (HK7.out.trans hk (fun _ _ h => h)); clear hb hk)
                | (go_at_call 16; refine (HSM.out _ _ _ _ _ HP8.out HB8.out).mono ?_; rintro e w9 ⟨rfl, hk⟩; have HX9 := Lib.hid (HX8.out.no hk); have HK9 := Lib.hid (HK8.out.trans hk (fun _ _ h => h)); clear hk))
              exact bodyPost_ret (v := .tuple #[.slice oa k oc, .int .i64 0]) (by simp [results, Tryd.results20, go_sem]) rfl (by rw [HGE.out]; exact ⟨_, rfl, HX9.out, HK9.out⟩)
            · rw [if_neg (fun h => hq h.2)] at hge
              have HGE := Lib.hid hge
              have HSM : Hid (∀ v u F G w, BSl w F v (bytEs L) → BSl w G u bs → Calls Tryd.prog 16 #[v, u] w fun e w' => e = .returned (.bool false) ∧ Kept NoB w w') := Lib.hid (fun v u F G w h k => (Same_any v u _ _ F G w h k).mono fun e w' hh => ⟨by rw [hh.1, decide_eq_false hq], hh.2⟩)
              clear hge hz hq
              go_wp2_with (first
                | (go_at_call 12; refine HCK.out.mono ?_; rintro e w7 ⟨rfl, hk⟩; have HX7 := Lib.hid (HXS.out.no hk); have HB7 := Lib.hid (HBW.out.no29 hk); have HK7 := Lib.hid ((kept_new29 HK.out).trans hk (fun _ _ h => h)); clear hk)
                | (go_at_call 17; refine (HBZ.out _ HX7.out).mono ?_; rintro e w8 ⟨pv, rfl, hb, hk⟩; have HP8 := Lib.hid hb; have HB8 := Lib.hid (HB7.out.no29 hk); have HK8 := Lib.hid (HK7.out.trans hk (fun _ _ h => h)); clear hb hk)
                | (go_at_call 16; refine (HSM.out _ _ _ _ _ HP8.out HB8.out).mono ?_; rintro e w9 ⟨rfl, hk⟩; have HK9 := Lib.hid (HK8.out.trans hk (fun _ _ h => h)); clear hk))
              exact bodyPost_ret (v := .tuple #[.slice none 0 0, .int .i64 4]) (by simp [results, Tryd.results20, go_sem]) rfl (by rw [HGE.out]; exact GetE29.nil rfl HK9.out)
          · rw [if_neg (fun h => hz h.1)] at hge
            have HGE := Lib.hid hge
            have g9 : (er != 0) = true := bne_iff_ne.2 hz
            clear hge hz
            go_wp2_with (go_at_call 12; refine HCK.out.mono ?_; rintro e w7 ⟨rfl, hk⟩; have HK7 := Lib.hid ((kept_new29 HK.out).trans hk (fun _ _ h => h)); clear hk)
            exact bodyPost_ret (v := .tuple #[.slice none 0 0, .int .i64 4]) (by simp [results, Tryd.results20, go_sem]) rfl (by rw [HGE.out]; exact GetE29.nil rfl HK7.out)
end Go.Proofs.YtiifkcjngajegaaDoor
