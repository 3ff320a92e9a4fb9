/-
  All of a list with a configuration of more than a thousand nodes: false. Written by wip/mkchor.py. ChosenPlays, plainly: what both Learn say is one; blocks apart. ChosenPlays: both Learn, side by side. ChosenPlays: the walk. Written by wip/mkchos.py. ChosenPlays: any configurations.
-/
import Derived.Test.YtjbchnildeeicaaCho2
import Derived.Test.YtjbchnildeeicaaCnf2
import Derived.Test.YtjbchnildeeicaaCho1
namespace Go.Proofs.Ytjbchnildeeicaa
open Go.RowKit
set_option linter.unusedVariables false

theorem CfsR.kept {S F : Nat → Prop} {w w' : World} {v : Value} {l : List Cf} (h : CfsR w F v l) (hk : Kept S w w') (hs : ∀ k, k < w.heap.size → F k → ¬ S k) : CfsR w' F v l := by
  obtain ⟨a, cap, h1, h2, h3, h4, h5⟩ := h
  refine ⟨a, cap, h1, h2, h3, h4, fun hl => ?_⟩
  obtain ⟨b, o, ha, hF, hb, hc⟩ := h5 hl
  have hb' : ¬ S b := hs b hb hF
  refine ⟨b, o, ha, hF, Nat.lt_of_lt_of_le hb hk.size, fun j hj => ?_⟩
  obtain ⟨u, e0, e1, e2, e3, e4, hn, q0, q1⟩ := hc j hj
  exact ⟨u, hk.cell hb' e0, hk.cell hb' e1, hk.cell hb' e2, hk.cell hb' e3, hk.cell hb' e4, hn.kept hk hs, q0, q1⟩
theorem CfsR.at_ {F : Nat → Prop} {w : World} {a : Option Addr} {n cap : Nat} {l : List Cf} (h : CfsR w F (.slice a n cap) l) {j : Nat} (hj : j < l.length) :
    ∃ b o, a = some ⟨b, o, none⟩ ∧ F b ∧ b < w.heap.size ∧ CfL w F b (o + j * 5) (nthC l j) := by
  obtain ⟨a', cap', h1, h2, h3, h4, h5⟩ := h
  injection h1 with h1 _ _
  subst h1
  obtain ⟨b, o, ha, hF, hb, hc⟩ := h5 (by omega)
  exact ⟨b, o, ha, hF, hb, hc j hj⟩
set_option maxRecDepth 100000 in
set_option maxHeartbeats 3000000 in
theorem RAll_great (v : Value) (l : List Cf) (F : Nat → Prop) (w : World) (h : CfsR w F v l) (hlen : l.length ≤ 1000) (K : Nat) (hK : K < l.length) (hg : 1000 < (nthC l K).ns.length) (hf : ∀ j, j < K → (nthC l j).ns.length ≤ 1000) : Calls Try.prog 27 #[v] w (BoolE false w) := by
  obtain ⟨a, cap, rfl, _⟩ := id h
  have hl : l.length ≤ 9223372036854775807 := by omega
  have H := Lib.hid h
  have HF := Lib.hid hf
  have HG := Lib.hid hg
  clear h hf hg
  go_enter Try.func27, Try.ntmps27
  go_wp2_with fail
  go_loopw [3, 4] (fun q i wr => ∃ k : Nat, i = .int .i64 k ∧ k ≤ K ∧ Kept NoB w wr ∧ IOwn w.heap.size wr q (memL (l.take k)) ∧ (memL (l.take k)).length ≤ 6 * k) (fun _ i _ => K - (intOf i).toNat)
  case atStart => exact ⟨0, rfl, Nat.zero_le _, Kept.refl _ _, IOwn.nil _ _, by simp [memL]⟩
  case round =>
    obtain ⟨k, rfl, hk, hkk, hown, hsm⟩ := hrel
    have HK := Lib.hid hkk
    have HO := Lib.hid hown
    obtain ⟨qa, qc, rfl⟩ := hown.form
    have HT := Lib.hid (@memL_take l k)
    obtain ⟨M, hM⟩ : ∃ M, M = memL (l.take k) := ⟨_, rfl⟩
    rw [← hM] at HO HT hsm ⊢
    have HM := Lib.hid hM
    clear hkk hown hM
    have hk1 : (k : Int) < (l.length : Int) := by omega
    by_cases hlt : k < K
    · have hcs := (H.out.kept HK.out (fun _ _ _ h => h))
      obtain ⟨b, o, rfl, _, _, u, e0, e1, e2, e3, e4, hns, q0, q1⟩ := hcs.at_ (show k < l.length by omega)
      have hep : 0 ≤ (nthC l k).ep ∧ (nthC l k).ep ≤ topE ∧ (nthC l k).ns.length ≤ 1000 := ⟨q0, q1, HF.out k hlt⟩
      clear q0 q1
      obtain ⟨ua, uc, rfl, _⟩ := id hns
      have hcv := cf_eta _ _ _ _ hns hep
      have HTK := Lib.hid (HT.out (show k < l.length by omega))
      have HMS : Hid (Rgt (nthC l k) → (nthC l k).mem.length ≤ 6) := Lib.hid (fun hr => by
        have h2 := hr.2.2.2.2.1
        unfold Cf.mem
        split
        · omega
        · simp; omega)
      obtain ⟨y, hy⟩ : ∃ y, y = nthC l k := ⟨_, rfl⟩
      have HY := Lib.hid hy
      rw [← hy] at e0 e1 e2 e3 e4 hcv HTK HMS
      have HCV := Lib.hid hcv
      obtain ⟨cy, hcy⟩ : ∃ z, z = y.ch := ⟨_, rfl⟩
      rw [← hcy] at e0 HCV
      have HCY := Lib.hid hcy
      have HRR := Lib.hid (fun w' (hk : Kept NoB wr w') => RRight_any _ y F w' (HCV.out.kept hk (fun _ _ _ h => h)))
      have HSS := Lib.hid (fun w' (hk : Kept NoB wr w') => Stands_any _ y F w' (HCV.out.kept hk (fun _ _ _ h => h)))
      have HR0 : Hid (Rgt y ↔ rgtB y = true) := Lib.hid (by unfold rgtB; simp)
      obtain ⟨r, hr⟩ : ∃ r, r = rgtB y := ⟨_, rfl⟩
      rw [← hr] at HRR HR0
      clear hy hns hep hcv hcs hcy hr
      cases r with
      | false =>
        go_wp2_with fail
        refine (HRR.out _ (Kept.refl _ _)).mono ?_
        rintro e w1 ⟨rfl, hk1⟩
        have HKF := Lib.hid (HK.out.trans hk1 (fun _ _ h => h))
        clear hk1
        go_wp2
        go_ret
        exact ⟨rfl, HKF.out⟩
      | true =>
        by_cases hck : cy = (k : Int)
        · have HP := Lib.hid hck
          have hckb : ((cy : Int) != (k : Int)) = false := by simpa using hck
          have hml := HMS.out ((HR0.out).2 (by simp))
          clear hck
          go_wp2_with fail
          refine (HRR.out _ (Kept.refl _ _)).mono ?_
          rintro e w1 ⟨rfl, hk1⟩
          have HK1 := Lib.hid hk1
          have c0 := hk1.cell (p := ⟨b, o + k * 5, none⟩) (fun h => h) e0
          have c1 := hk1.cell (p := ⟨b, o + k * 5 + 1, none⟩) (fun h => h) e1
          have c2 := hk1.cell (p := ⟨b, o + k * 5 + 2, none⟩) (fun h => h) e2
          have c3 := hk1.cell (p := ⟨b, o + k * 5 + 3, none⟩) (fun h => h) e3
          have c4 := hk1.cell (p := ⟨b, o + k * 5 + 4, none⟩) (fun h => h) e4
          have HO2 := Lib.hid (row_keptI HO.out hk1 (fun _ _ h => h))
          clear hk1 e0 e1 e2 e3 e4
          go_wp2_with fail
          refine (HSS.out _ HK1.out).mono ?_
          rintro e w2 ⟨v', rfl, hown, hk2⟩
          have HK2 := Lib.hid (HK1.out.trans hk2 (fun _ _ h => h))
          have HO3 := Lib.hid (row_keptI HO2.out hk2 (fun _ _ h => h))
          have HNV := Lib.hid hown.nslB
          obtain ⟨va, vc, rfl⟩ := hown.form
          have HSZ : Hid (w.heap.size ≤ w2.heap.size) := Lib.hid (Nat.le_trans HK.out.size HK2.out.size)
          have HOL := Lib.hid (World.ownsRow.lt HO.out)
          clear hk2 hown c0 c1 c2 c3 c4
          go_wp2_with (at_builtin; refine wpList_append_nsl _ rfl (.tmp 26) (.tmp 31) rfl w.heap.size (.slice qa M.length qc) M rfl HO3.out (fun k => w1.heap.size ≤ k) (.slice va y.mem.length vc) y.mem rfl HNV.out (by omega) HSZ.out ?_; intro a1 c1 w3 hown1 hg1 hat1; clear hat1)
          go_roundw
          case rel =>
            refine ⟨k + 1, by go_num, by omega, (HK.out.trans HK2.out (fun _ _ h => h)).grown hg1 (fun i hi => .inr (HOL.out i hi).1), ?_, ?_⟩
            · rw [HTK.out]; unfold IOwn at *; rw [List.length_append] at hown1 ⊢; exact hown1
            · rw [HTK.out, List.length_append]; omega
          case measure => simp [intOf]; omega
        · have hckb : ((cy : Int) != (k : Int)) = true := by simpa using hck
          clear hck
          go_wp2_with fail
          refine (HRR.out _ (Kept.refl _ _)).mono ?_
          rintro e w1 ⟨rfl, hk1⟩
          have HKF := Lib.hid (HK.out.trans hk1 (fun _ _ h => h))
          have c0 := hk1.cell (p := ⟨b, o + k * 5, none⟩) (fun h => h) e0
          clear hk1 e0
          go_wp2
          go_ret
          exact ⟨rfl, HKF.out⟩
    · obtain rfl : k = K := by omega
      have hcs := (H.out.kept HK.out (fun _ _ _ h => h))
      obtain ⟨b, o, rfl, _, _, u, e0, e1, e2, e3, e4, hns, q0, q1⟩ := hcs.at_ hK
      obtain ⟨ua, uc, rfl, _⟩ := id hns
      have HCV : Hid (CfR wr F (.agg #[.int .i64 (nthC l k).ch, .int .u64 (nthC l k).ep, .slice ua (nthC l k).ns.length uc, .bool (nthC l k).fr, .int .i64 (nthC l k).jn]) (nthC l k)) := Lib.hid ⟨_, rfl, hns, q0, q1⟩
      have HRR := Lib.hid (fun w' (hk : Kept NoB wr w') => RRight_great _ (nthC l k) F w' (by
        obtain ⟨u, h1, h2, h3⟩ := HCV.out
        exact ⟨u, h1, h2.kept hk (fun _ _ _ h => h), h3⟩) HG.out)
      obtain ⟨y, hy⟩ : ∃ y, y = nthC l k := ⟨_, rfl⟩
      rw [← hy] at e0 e1 e2 e3 e4 HRR
      clear hy hns hcs HCV q0 q1
      obtain ⟨y0, y1, y2, y3, y4⟩ := y
      simp only at e0 e1 e2 e3 e4 HRR
      go_wp2_with fail
      refine (HRR.out _ (Kept.refl _ _)).mono ?_
      rintro e w1 ⟨rfl, hk1⟩
      have HKF := Lib.hid (HK.out.trans hk1 (fun _ _ h => h))
      clear hk1
      go_wp2
      go_ret
      exact ⟨rfl, HKF.out⟩
theorem All1_great (v : Value) (l : List Cf) (x : Int) (k gl gi : Nat) (F : Nat → Prop) (w : World) (h : CfsR w F v l) (hk : k ≤ l.length) (hf : ∀ j, j < k → (nthC l j).ns.length ≤ 1000) (hgl : w.cell? ⟨gl, 0, none⟩ = some v) (hgi : w.cell? ⟨gi, 0, none⟩ = some (.int .i64 k)) :
    Calls Try.prog 81 #[.int .i64 x, .pointer (some ⟨gl, 0, none⟩), .pointer (some ⟨gi, 0, none⟩)] w (BoolE (usedB (l.take k) x) w) := by
  obtain ⟨a, cap, rfl, hc, hcm, _⟩ := id h
  have hl : l.length ≤ 9223372036854775807 := by unfold maxLen at hcm; omega
  have HU := Lib.hid (Used_any _ _ x F w (h.part k hk hf))
  have hk2 : (k : Int) ≤ (cap : Int) := by omega
  obtain ⟨d, hd⟩ : ∃ d, d = usedB (l.take k) x := ⟨_, rfl⟩
  rw [← hd] at HU ⊢
  clear h hd
  go_enter Try.func81, Try.ntmps81
  go_wp2_with fail
  refine HU.out.mono ?_
  rintro e w1 ⟨rfl, hk⟩
  have HK := Lib.hid hk
  clear hk
  go_wp2
  go_ret
  exact ⟨rfl, HK.out⟩
set_option maxRecDepth 100000 in
set_option maxHeartbeats 3000000 in
theorem All_great (v : Value) (l : List Cf) (F : Nat → Prop) (w : World) (h : CfsR w F v l) (hlen : l.length ≤ 1000) (K : Nat) (hK : K < l.length) (hg : 1000 < (nthC l K).ns.length) (hf : ∀ j, j < K → (nthC l j).ns.length ≤ 1000) : Calls Try.prog 58 #[v] w (BoolE false w) := by
  obtain ⟨a, cap, rfl, _⟩ := id h
  have hl : l.length ≤ 9223372036854775807 := by omega
  have H := Lib.hid h
  have HF := Lib.hid hf
  have HG := Lib.hid hg
  have HB := Lib.hid (heap_alloc_new w (.cells #[.slice a l.length cap] 57))
  clear h hf hg
  by_cases h4 : 4 < l.length
  · have h1' : decide ((l.length : Int) < 1) = false := decide_eq_false (by omega)
    have h4' : decide (4 < (l.length : Int)) = true := decide_eq_true (by omega)
    go_enter Try.func58, Try.ntmps58
    go_wp2
    go_ret
    exact ⟨rfl, (Kept.refl _ _).alloc _⟩
  · have h1' : decide ((l.length : Int) < 1) = false := decide_eq_false (by omega)
    have h4' : decide (4 < (l.length : Int)) = false := decide_eq_false (by omega)
    have hL4 : l.length ≤ 4 := by omega
    have HK0 := Lib.hid ((Kept.refl NoB w).alloc (.cells #[.slice a l.length cap] 57))
    have hsz : w.heap.size < (w.alloc (.cells #[.slice a l.length cap] 57)).heap.size := by simp
    clear h4
    go_enter Try.func58, Try.ntmps58
    go_wp2_with fail
    go_loopw [3, 4, 5, 16] (fun _ _ _ i wr => ∃ k : Nat, i = .int .i64 k ∧ k ≤ K ∧ Kept NoB w wr ∧ wr.heap[w.heap.size]? = some (.cells #[.slice a l.length cap] 57 (0, 0))) (fun _ _ _ i _ => K - (intOf i).toNat)
    case atStart => exact ⟨0, rfl, Nat.zero_le _, HK0.out, HB.out⟩
    case round =>
      obtain ⟨k, rfl, hk, hkk, hbb⟩ := hrel
      have HK := Lib.hid hkk
      have HBB := Lib.hid hbb
      clear hkk hbb
      have hk1 : (k : Int) < (l.length : Int) := by omega
      by_cases hlt : k < K
      · have hcs := (H.out.kept HK.out (fun _ _ _ h => h))
        obtain ⟨b, o, rfl, _, _, u, e0, e1, e2, e3, e4, hns, q0, q1⟩ := hcs.at_ (show k < l.length by omega)
        have hep : 0 ≤ (nthC l k).ep ∧ (nthC l k).ep ≤ topE ∧ (nthC l k).ns.length ≤ 1000 := ⟨q0, q1, HF.out k hlt⟩
        clear q0 q1
        obtain ⟨ua, uc, rfl, _⟩ := id hns
        have hcv := cf_eta _ _ _ _ hns hep
        have HCS := Lib.hid (hcs.part k (by omega) (fun j hj => HF.out j (by omega)))
        obtain ⟨y, hy⟩ : ∃ y, y = nthC l k := ⟨_, rfl⟩
        rw [← hy] at e0 e1 e2 e3 e4 hcv
        have HCV := Lib.hid hcv
        obtain ⟨cy, hcy⟩ : ∃ z, z = y.ch := ⟨_, rfl⟩
        rw [← hcy] at e0 hcv HCV
        have HMM := Lib.hid (fun w' (hk : Kept NoB wr w') => members_any _ y F w' (HCV.out.kept hk (fun _ _ _ h => h)))
        have HRR := Lib.hid (fun w' (hk : Kept NoB wr w') => Right_any _ y F w' (HCV.out.kept hk (fun _ _ _ h => h)))
        have HR0 : Hid (Rgt y ↔ rgtB y = true) := Lib.hid (by unfold rgtB; simp)
        obtain ⟨r, hr⟩ : ∃ r, r = rgtB y := ⟨_, rfl⟩
        rw [← hr] at HRR HR0
        have hc := heap_alloc_new (wr.alloc (.cells #[.int .i64 (k : Int)] 3)) (.cells #[.int .i64 cy, .int .u64 y.ep, .slice ua y.ns.length uc, .bool y.fr, .int .i64 y.jn] 77)
        have hz : (wr.alloc (.cells #[.int .i64 (k : Int)] 3)).heap.size = wr.heap.size + 1 := by simp
        rw [hz] at hc
        have HC := Lib.hid hc
        have HI := Lib.hid (balloc (heap_alloc_new wr (.cells #[.int .i64 (k : Int)] 3)) (.cells #[.int .i64 cy, .int .u64 y.ep, .slice ua y.ns.length uc, .bool y.fr, .int .i64 y.jn] 77))
        have HB2 := Lib.hid (balloc (balloc HBB.out (.cells #[.int .i64 (k : Int)] 3)) (.cells #[.int .i64 cy, .int .u64 y.ep, .slice ua y.ns.length uc, .bool y.fr, .int .i64 y.jn] 77))
        have HK2 := Lib.hid (((Kept.refl NoB wr).alloc (.cells #[.int .i64 (k : Int)] 3)).alloc (.cells #[.int .i64 cy, .int .u64 y.ep, .slice ua y.ns.length uc, .bool y.fr, .int .i64 y.jn] 77))
        clear hy hns hep hcv hcs hcy hc hz hr
        cases r with
        | false =>
          go_wp2_with fail
          refine (HRR.out _ HK2.out).mono ?_
          rintro e w1 ⟨rfl, hk1⟩
          have HKF := Lib.hid ((HK.out.trans HK2.out (fun _ _ h => h)).trans hk1 (fun _ _ h => h))
          clear hk1
          go_wp2
          go_ret
          exact ⟨rfl, HKF.out⟩
        | true =>
          by_cases hck : cy = (k : Int)
          · have HP := Lib.hid hck
            have hckb : ((cy : Int) != (k : Int)) = false := by simpa using hck
            have HT : Hid (∀ w', Kept NoB wr w' → TellsN 81 #[.pointer (some ⟨w.heap.size, 0, none⟩), .pointer (some ⟨wr.heap.size, 0, none⟩)] y.mem (fun x => usedB (l.take k) x) w' ∨ w'.cell? ⟨wr.heap.size, 0, none⟩ ≠ some (.int .i64 (k : Int))) := Lib.hid (fun w' hk' => by
              by_cases hce : w'.cell? ⟨wr.heap.size, 0, none⟩ = some (.int .i64 (k : Int))
              · refine .inl ⟨ent_all1, fun x w2 _ hk2 => All1_great _ l x k w.heap.size wr.heap.size F w2 (H.out.kept ((HK.out.trans hk' (fun _ _ h => h)).trans hk2 (fun _ _ h => h)) (fun _ _ _ h => h)) (by omega) (fun j hj => HF.out j (by omega)) (cell_of_row _ _ 0 _ _ _ ((hk'.trans hk2 (fun _ _ h => h)).heap (fun h => h) HBB.out)) (hk2.cell (p := ⟨wr.heap.size, 0, none⟩) (fun h => h) hce)⟩
              · exact .inr hce)
            obtain ⟨d2, hd2⟩ : ∃ d2, d2 = y.mem.any (fun x => usedB (l.take k) x) := ⟨_, rfl⟩
            have HD2 := Lib.hid hd2
            have HCN := Lib.hid (fun v F w' (h : NSl w' F v y.mem) hp => hd2 ▸ ContainsN_any v y.mem 81 #[.pointer (some ⟨w.heap.size, 0, none⟩), .pointer (some ⟨wr.heap.size, 0, none⟩)] (fun x => usedB (l.take k) x) F w' h hp)
            clear hd2 hck
            go_wp2_with fail
            refine (HRR.out _ HK2.out).mono ?_
            rintro e w1 ⟨rfl, hk1⟩
            have HK3 := Lib.hid (HK2.out.trans hk1 (fun _ _ h => h))
            obtain ⟨c0, c1, c2, c3, c4⟩ := cells5 (hk1.heap (fun h => h) HC.out)
            have i0 := cell_of_row _ _ 0 _ _ _ (hk1.heap (fun h => h) HI.out)
            have HI3 := Lib.hid i0
            clear hk1
            go_wp2_with fail
            refine (HMM.out _ HK3.out).mono ?_
            rintro e w2 ⟨v', rfl, hn, hk2⟩
            have HN2 := Lib.hid hn
            have HK4 := Lib.hid (HK3.out.trans hk2 (fun _ _ h => h))
            have HI4 := Lib.hid (hk2.cell (p := ⟨wr.heap.size, 0, none⟩) (fun h => h) HI3.out)
            clear hn hk2 c0 c1 c2 c3 c4 i0
            go_wp2_with fail
            refine (HCN.out _ _ _ HN2.out ((HT.out _ HK4.out).resolve_right (fun h => h HI4.out))).mono ?_
            rintro e w3 ⟨rfl, hk3⟩
            have HK5 := Lib.hid (HK4.out.trans hk3 (fun _ _ h => h))
            have HKF := Lib.hid (HK.out.trans HK5.out (fun _ _ h => h))
            have HB5 := Lib.hid (HK5.out.heap (fun h => h) HBB.out)
            clear hk3
            cases d2 with
            | true =>
              go_wp2
              go_ret
              exact ⟨rfl, HKF.out⟩
            | false =>
              go_wp2
              exact ⟨⟨k + 1, by go_num, by omega, HKF.out, HB5.out⟩, by simp [intOf]; omega⟩
          · have hckb : ((cy : Int) != (k : Int)) = true := by simpa using hck
            clear hck
            go_wp2_with fail
            refine (HRR.out _ HK2.out).mono ?_
            rintro e w1 ⟨rfl, hk1⟩
            have HKF := Lib.hid ((HK.out.trans HK2.out (fun _ _ h => h)).trans hk1 (fun _ _ h => h))
            obtain ⟨c0, c1, c2, c3, c4⟩ := cells5 (hk1.heap (fun h => h) HC.out)
            have i0 := cell_of_row _ _ 0 _ _ _ (hk1.heap (fun h => h) HI.out)
            clear hk1
            go_wp2
            go_ret
            exact ⟨rfl, HKF.out⟩
      · obtain rfl : k = K := by omega
        have hcs := (H.out.kept HK.out (fun _ _ _ h => h))
        obtain ⟨b, o, rfl, _, _, u, e0, e1, e2, e3, e4, hns, q0, q1⟩ := hcs.at_ hK
        obtain ⟨ua, uc, rfl, _⟩ := id hns
        have HCV : Hid (CfR wr F (.agg #[.int .i64 (nthC l k).ch, .int .u64 (nthC l k).ep, .slice ua (nthC l k).ns.length uc, .bool (nthC l k).fr, .int .i64 (nthC l k).jn]) (nthC l k)) := Lib.hid ⟨_, rfl, hns, q0, q1⟩
        have HRR := Lib.hid (fun w' (hk : Kept NoB wr w') => Right_great _ (nthC l k) F w' (by
          obtain ⟨u, h1, h2, h3⟩ := HCV.out
          exact ⟨u, h1, h2.kept hk (fun _ _ _ h => h), h3⟩) HG.out)
        obtain ⟨y, hy⟩ : ∃ y, y = nthC l k := ⟨_, rfl⟩
        rw [← hy] at e0 e1 e2 e3 e4 HRR
        clear hy hns hcs HCV q0 q1
        obtain ⟨y0, y1, y2, y3, y4⟩ := y
        simp only at e0 e1 e2 e3 e4 HRR
        have HK2 := Lib.hid (((Kept.refl NoB wr).alloc (.cells #[.int .i64 (k : Int)] 3)).alloc (.cells #[.int .i64 y0, .int .u64 y1, .slice ua y2.length uc, .bool y3, .int .i64 y4] 77))
        go_wp2_with fail
        refine (HRR.out _ HK2.out).mono ?_
        rintro e w1 ⟨rfl, hk1⟩
        have HKF := Lib.hid ((HK.out.trans HK2.out (fun _ _ h => h)).trans hk1 (fun _ _ h => h))
        clear hk1
        go_wp2
        go_ret
        exact ⟨rfl, HKF.out⟩
end Go.Proofs.Ytjbchnildeeicaa
namespace Go.Proofs.Ytjbchnildeeicaa
open Go.RowKit
set_option linter.unusedVariables false

theorem lead_at {L : List Vt} {n : Nat} (hs : Srt L) (h : LeadIs L n) (i : Nat) (hi : i < n) : ∃ hl : i < L.length, atV L (i : Int) = some L[i] := by
  have hl : i < L.length := by have := h.1; omega
  refine ⟨hl, ?_⟩
  have := atV_mem hs (List.getElem_mem hl)
  rwa [h.2.1 i hl hi] at this
theorem lead_none {L : List Vt} {n : Nat} (hs : Srt L) (h : LeadIs L n) (hb : ∀ v ∈ L, 0 ≤ v.s ∧ v.s < 512) : atV L (n : Int) = none := by
  refine atV_none fun v hv e => ?_
  obtain ⟨i, hi, rfl⟩ := List.getElem_of_mem hv
  rcases Nat.lt_trichotomy i n with hlt | rfl | hgt
  · have := h.2.1 i hi hlt; omega
  · exact h.2.2 hi e
  · have hnl : n < L.length := by omega
    have h1 := List.pairwise_iff_getElem.1 hs n i hnl hi hgt
    rcases Nat.eq_zero_or_pos n with h0 | h0
    · subst h0
      have := hb _ (List.getElem_mem hnl)
      omega
    · have h2 := List.pairwise_iff_getElem.1 hs (n - 1) n (by omega) hnl (by omega)
      have h3 := h.2.1 (n - 1) (by omega) (by omega)
      omega
/-- What Learn applies is what lies between the known ones' two ends. -/
theorem vs_is {L : List Vt} {n m : Nat} {vs : List Vt} (hs : Srt L) (hb : ∀ v ∈ L, 0 ≤ v.s ∧ v.s < 512) (hm : LeadIs L m) (hnm : n ≤ m)
    (h1 : ∀ i (hi : i < vs.length), atV L ((n : Int) + i) = some vs[i]) (h2 : atV L ((n : Int) + vs.length) = none) : vs.length = m - n ∧ vs = (L.take m).drop n := by
  have hlen : vs.length = m - n := by
    rcases Nat.lt_trichotomy vs.length (m - n) with hlt | he | hgt
    · obtain ⟨_, e⟩ := lead_at hs hm (n + vs.length) (by omega)
      rw [Int.natCast_add, h2] at e
      cases e
    · exact he
    · have e := h1 (m - n) hgt
      rw [show (n : Int) + ((m - n : Nat) : Int) = (m : Int) by omega, lead_none hs hm hb] at e
      cases e
  refine ⟨hlen, List.ext_getElem (by rw [List.length_drop, List.length_take_of_le hm.1, hlen]) fun i hi1 hi2 => ?_⟩
  obtain ⟨hl, e⟩ := lead_at hs hm (n + i) (by omega)
  have e1 := h1 i hi1
  rw [← Int.natCast_add, e] at e1
  injection e1 with e1
  rw [List.getElem_drop, List.getElem_take, e1]
/-- A row of the chapter's log lies apart from configurations. -/
theorem NSl.far2 {w : World} {F : Nat → Prop} {v : Value} {l : List Int} {r : Nat} {a b : Option Addr} {n c m d : Nat} {t : TypeId} (h : NSl w F v l) (hr : w.heap[r]? = some (.cells #[.slice a n c, .slice b m d] t (0, 0))) : NSl w (fun k => F k ∧ k ≠ r) v l := by
  obtain ⟨a', c', h1, h2, h3, h4, h5⟩ := h
  refine ⟨a', c', h1, h2, h3, h4, fun hp => ?_⟩
  obtain ⟨b', o, e, hF, hb, hc⟩ := h5 hp
  refine ⟨b', o, e, ⟨hF, ?_⟩, hb, hc⟩
  rintro rfl
  have e0 := hc 0 hp
  simp only [Nat.add_zero] at e0
  match o with
  | 0 => rw [(cells2l hr).1] at e0; cases e0
  | 1 => rw [(cells2l hr).2.1] at e0; cases e0
  | o + 2 => simp [World.cell?, hr] at e0
theorem CfsAt.far2 {w : World} {F : Nat → Prop} {v : Value} {l : List Cf} {r : Nat} {a b : Option Addr} {n c m d : Nat} {t : TypeId} (h : CfsAt w F v l) (hr : w.heap[r]? = some (.cells #[.slice a n c, .slice b m d] t (0, 0))) : CfsAt w (fun k => F k ∧ k ≠ r) v l := by
  obtain ⟨a', c', h1, h2, h3, h4, h5⟩ := h
  refine ⟨a', c', h1, h2, h3, h4, fun hp => ?_⟩
  obtain ⟨b', o, e, hF, hb, hc⟩ := h5 hp
  refine ⟨b', o, e, ⟨hF, ?_⟩, hb, fun j hj => ?_⟩
  · rintro rfl
    obtain ⟨u, e0, _⟩ := hc 0 hp
    simp only [Nat.zero_mul, Nat.add_zero] at e0
    match o with
    | 0 => rw [(cells2l hr).1] at e0; cases e0
    | 1 => rw [(cells2l hr).2.1] at e0; cases e0
    | o + 2 => simp [World.cell?, hr] at e0
  · obtain ⟨u, e0, e1, e2, e3, e4, hn, q⟩ := hc j hj
    exact ⟨u, e0, e1, e2, e3, e4, hn.far2 hr, q⟩
theorem LogAt.far2 {w : World} {F : Nat → Prop} {g bm : Nat} {L : List Vt} {nx dn : Int} {x : Option Addr} {y : Nat} {l : List Cf} {r : Nat} {a b : Option Addr} {n c m d : Nat} {t : TypeId} (h : LogAt w F g bm L nx dn x y l) (hr : w.heap[r]? = some (.cells #[.slice a n c, .slice b m d] t (0, 0))) : LogAt w (fun k => F k ∧ k ≠ r) g bm L nx dn x y l :=
  ⟨h.cells, h.cfs.far2 hr, fun k hk => h.sub k hk.1, h.map, h.ok, h.n0, h.n1, h.d0, h.d1, h.few⟩
theorem LNew_great (w : World) (v : Value) (l : List Cf) (F : Nat → Prop) (h : CfsR w F v l) (hlen : l.length ≤ 1000) (K : Nat) (hK : K < l.length) (hg : 1000 < (nthC l K).ns.length) (hf : ∀ j, j < K → (nthC l j).ns.length ≤ 1000) : Calls Try.prog 26 #[v] w fun e w' => e = .returned (.tuple #[.pointer none, .int .i64 1]) ∧ Kept NoB w w' := by
  obtain ⟨a, cap, rfl, _⟩ := id h
  have HA := Lib.hid (All_great _ l F w h hlen K hK hg hf)
  clear h
  go_enter Try.func26, Try.ntmps26
  go_wp2_with fail
  refine HA.out.mono ?_
  rintro e w1 ⟨rfl, hk1⟩
  have HK1 := Lib.hid hk1
  clear hk1
  go_wp2
  go_ret2
  exact ⟨rfl, HK1.out⟩
/-- Blocks apart from both logs. -/
def PF (g bm r : Nat) (w : World) : Nat → Prop := fun i => (NL g bm i ∧ i ≠ r) ∧ i < w.heap.size
/-- Both logs at the head of the loop. -/
structure ClAt (w : World) (g bm r : Nat) (L : List Vt) (n : Nat) (dn : Int) (a : Option Addr) (c : Nat) (l l0 : List Cf) (ka : Option Addr) (kc : Nat) (fa : Option Addr) (fc : Nat) (G : Nat → Prop) : Prop where
  sm : SmAt w (PF g bm r w) G g bm L n dn a c l l0 ka kc fa fc
  gr : ∀ k, G k → k ≠ r
  b0 : ∀ v ∈ L, v.b = 0
  row : w.heap[r]? = some (.cells #[.slice ka L.length kc, .slice fa l0.length fc] 63 (0, 0))
  rg : r ≠ g ∧ r ≠ bm
theorem ClAt.no {w w' : World} {g bm r : Nat} {L : List Vt} {n : Nat} {dn : Int} {a : Option Addr} {c : Nat} {l l0 : List Cf} {ka : Option Addr} {kc : Nat} {fa : Option Addr} {fc : Nat} {G : Nat → Prop} (h : ClAt w g bm r L n dn a c l l0 ka kc fa fc G) (hk : Kept NoB w w') : ClAt w' g bm r L n dn a c l l0 ka kc fa fc G := by
  have hz := hk.size
  have hm : ∀ i, PF g bm r w i → PF g bm r w' i := fun i hi => ⟨hi.1, by have := hi.2; omega⟩
  exact ⟨⟨h.sm.log.no hk, ⟨(h.sm.ref.no hk).known.mono (fun i _ hi => hm i hi), (h.sm.ref.no hk).first.mono (fun i _ hi => hm i hi)⟩, h.sm.lead, h.sm.now, h.sm.done, h.sm.few, fun i hi => hi.2⟩, h.gr, h.b0, hk.heap (fun h => h) h.row, h.rg⟩
end Go.Proofs.Ytjbchnildeeicaa
namespace Go.Proofs.Ytjbchnildeeicaa
open Go.RowKit
set_option linter.unusedVariables false

/-- What Learn leaves. -/
def LnE (g bm : Nat) (L2 : List Vt) (m : Nat) (D l2 : List Cf) (dn2 X : Int) (w : World) (e : Ending) (w' : World) : Prop :=
  ∃ (oa : Option Addr) (oc : Nat) (a' : Option Addr) (c' : Nat) (G : Nat → Prop), e = .returned (.tuple #[.slice oa D.length oc, .int .i64 X]) ∧ CfsAt w' (NL g bm) (.slice oa D.length oc) D ∧ LogAt w' G g bm L2 m dn2 a' c' l2 ∧ Kept (LB g bm) w w'
/-- What the chapter's leaves. -/
def RlE (g bm r : Nat) (L2 : List Vt) (D : List Cf) (fa : Option Addr) (fn fc : Nat) (X : Int) (w : World) (e : Ending) (w' : World) : Prop :=
  ∃ (ka : Option Addr) (kc : Nat) (oa : Option Addr) (oc : Nat), e = .returned (.tuple #[.agg #[.slice ka L2.length kc, .slice fa fn fc], .slice oa D.length oc, .int .i64 X]) ∧ CfsAt w' (fun i => i ≠ r) (.slice oa D.length oc) D ∧ VRd w' (fun i => NL g bm i ∧ i ≠ r) (.slice ka L2.length kc) L2 ∧ Kept NoB w w'
structure StepAt (L2 : List Vt) (m : Nat) (l2 l0 : List Cf) (dn2 : Int) : Prop where
  lead : LeadIs L2 m
  now : l2 = (runC l0 (L2.take m)).2
  done : dn2 = (runC l0 (L2.take m)).1.length
  b0 : ∀ v ∈ L2, v.b = 0
theorem both_learn (w : World) (g bm r : Nat) (L : List Vt) (n : Nat) (dn : Int) (a : Option Addr) (c : Nat) (l l0 : List Cf) (ka : Option Addr) (kc : Nat) (fa : Option Addr) (fc : Nat) (G : Nat → Prop) (h : ClAt w g bm r L n dn a c l l0 ka kc fa fc G) (s k ch ep nd : Int) (hep : 0 ≤ ep) (hep2 : ep ≤ 18446744073709551615) :
    ∃ (X : Int) (L2 : List Vt) (m : Nat) (D l2 : List Cf) (dn2 : Int), StepAt L2 m l2 l0 dn2 ∧
      (∀ w', Kept NoB w w' → Calls Try.prog 28 #[.pointer (some ⟨g, 0, none⟩), .int .i64 s, .agg #[.int .i64 k, .int .i64 ch, .int .u64 ep, .int .i64 nd]] w' (LnE g bm L2 m D l2 dn2 X w')) ∧
      (∀ w', Kept (LB g bm) w w' → Calls Try.prog 29 #[.agg #[.slice ka L.length kc, .slice fa l0.length fc], .int .i64 s, .agg #[.int .i64 k, .int .i64 ch, .int .u64 ep, .int .i64 nd]] w' (RlE g bm r L2 D fa l0.length fc X w')) := by
  have hx := chk_is k ch ep nd
  obtain ⟨e0, he0⟩ : ∃ e0, e0 = chk k ch ep nd := ⟨_, rfl⟩
  rw [← he0] at hx
  clear he0
  have hlg := h.sm.log.lt
  have hrl := heap_lt h.row
  have hkn := h.sm.log.known
  have hsrt := h.sm.log.map.1
  have hok : ∀ v ∈ L, Chk v.k v.ch v.ep v.nd 0 ∧ 0 ≤ v.ep := fun v hv => ⟨(h.sm.log.ok v hv).2, (h.sm.log.ok v hv).1.2.2.2.2.1⟩
  have hL1 : ∀ w', Kept NoB w w' → Calls Try.prog 28 #[.pointer (some ⟨g, 0, none⟩), .int .i64 s, .agg #[.int .i64 k, .int .i64 ch, .int .u64 ep, .int .i64 nd]] w' (LearnE G g bm L n dn a c l s e0 k ch ep nd w') := fun w' hk => LLearn_any w' G g bm L n dn a c l s e0 k ch ep nd (h.sm.log.no hk) hx hep hep2
  have hL2 : ∀ w', Kept (LB g bm) w w' → Calls Try.prog 29 #[.agg #[.slice ka L.length kc, .slice fa l0.length fc], .int .i64 s, .agg #[.int .i64 k, .int .i64 ch, .int .u64 ep, .int .i64 nd]] w' (RLearnE (PF g bm r w) ka kc fa fc L l0 n s e0 k ch ep nd w') := fun w' hk => RLearn_any w' (PF g bm r w) ka fa kc fc L l0 n s e0 k ch ep nd (h.sm.ref.kept hk (fun i hi e => by have := hi.1.1; unfold NL at this; rcases e with e | e <;> omega)) (by omega) h.sm.few (fun i hi => by have := hi.2; have := hk.size; omega) hok h.b0 hsrt h.sm.lead hx hep
  by_cases hX : lrnX L s e0 k ch ep nd = 0
  · obtain ⟨m, hm⟩ := lead_ex (putV L ⟨s, 0, k, ch, ep, nd⟩)
    obtain ⟨L2, hL⟩ : ∃ L2, L2 = putV L ⟨s, 0, k, ch, ep, nd⟩ := ⟨_, rfl⟩
    have hs0 : 0 ≤ s ∧ s < 512 := by
      unfold lrnX at hX
      split at hX
      · omega
      · omega
    have hav : atV L s = none ∨ atV L s = some ⟨s, 0, k, ch, ep, nd⟩ := by
      unfold lrnX at hX
      split at hX
      · omega
      · split at hX
        · contradiction
        · revert hX
          cases hat : atV L s with
          | none => exact fun _ => .inl rfl
          | some v =>
            intro hX
            right
            have hvb := h.b0 v (atV_slot hat).2
            have hvs := (atV_slot hat).1
            obtain ⟨v0, v1, v2, v3, v4, v5⟩ := v
            simp only at hX hvb hvs
            split at hX
            · rename_i he
              obtain ⟨rfl, rfl, rfl, rfl⟩ := he
              subst hvb hvs
              rfl
            · omega
    have hcp := came_put (v := ⟨s, 0, k, ch, ep, nd⟩) l0 hsrt hs0.1 h.sm.lead hm hav
    rw [← hL] at hm hcp
    obtain ⟨hnm, hrun⟩ := hcp
    have hsr2 : Srt L2 := hL ▸ putV_srt _ hsrt
    have hbb : ∀ v ∈ L2, 0 ≤ v.s ∧ v.s < 512 := fun v hv => by
      rw [hL] at hv
      rcases putV_mem hv with rfl | hv
      · exact hs0
      · exact ⟨(h.sm.log.ok v hv).1.1, (h.sm.log.ok v hv).1.2.1⟩
    rw [← h.sm.now] at hrun
    refine ⟨0, L2, m, (runC l ((L2.take m).drop n)).1, (runC l ((L2.take m).drop n)).2, dn + (runC l ((L2.take m).drop n)).1.length, ⟨hm, by rw [hrun], by rw [hrun, List.length_append, h.sm.done, Int.natCast_add], fun v hv => ?_⟩, fun w' hk => (hL1 w' hk).mono fun e w'' hle => ?_, fun w' hk => (hL2 w' hk).mono fun e w'' hle => ?_⟩
    · rw [hL] at hv
      rcases putV_mem hv with rfl | hv
      · rfl
      · exact h.b0 v hv
    · rcases hle with ⟨hbad, _⟩ | ⟨_, vs, oa, oc, a', c', G', h1, h2, h3, h4, h5, h6⟩
      · exact absurd hX hbad
      · rw [← hL] at h3 h4 h5
        obtain ⟨hvl, hvs⟩ := vs_is hsr2 hbb hm hnm h3 h4
        rw [← hvs]
        have hz := hk.size
        refine ⟨oa, oc, a', c', G', h1, h2.mono (fun i _ hi => by unfold NL; omega), ?_, h6⟩
        rw [show (n : Int) + (vs.length : Int) = (m : Int) by omega] at h5
        exact h5
    · rcases hle with ⟨hbad, _⟩ | ⟨_, L', D, ka', kc', oa, oc, m', h1, h2, h3, h4, h5, h6, h7, h8, h9⟩
      · exact absurd hX hbad
      · rw [← hL] at h1
        subst h1
        obtain rfl := hm.one h6
        rw [← h.sm.now] at h2
        subst h2
        have hz := hk.size
        exact ⟨ka', kc', oa, oc, h3, h5.mono (fun i _ hi => by
          rcases hi with hi | hi
          · exact hi.1.2
          · omega), h4.mono (fun i _ hi => ⟨by unfold NL; omega, by omega⟩), h9⟩
  · refine ⟨lrnX L s e0 k ch ep nd, L, n, [], l, dn, ⟨h.sm.lead, h.sm.now, h.sm.done, h.b0⟩, fun w' hk => (hL1 w' hk).mono fun e w'' hle => ?_, fun w' hk => (hL2 w' hk).mono fun e w'' hle => ?_⟩
    · rcases hle with ⟨_, h1, h2, h3⟩ | ⟨h0, _⟩
      · exact ⟨none, 0, a, c, G, h1, CfsAt.nil _ _, h2, h3.mono (fun _ _ h => h.elim)⟩
      · exact absurd h0 hX
    · rcases hle with ⟨_, h1, h2⟩ | ⟨h0, _⟩
      · refine ⟨ka, kc, none, 0, h1, CfsAt.nil _ _, ?_, h2⟩
        exact ((h.sm.ref.known.kept hk (fun i hi e => by have := hi.1.1; unfold NL at this; rcases e with e | e <;> omega)).no h2).mono (fun i _ hi => hi.1)
      · exact absurd h0 hX
end Go.Proofs.Ytjbchnildeeicaa
namespace Go.Proofs.Ytjbchnildeeicaa
open Go.RowKit
set_option linter.unusedVariables false

def ClRel (w : World) (g bm r N : Nat) (l0 : List Cf) (fa : Option Addr) (fc : Nat) (iv : Value) (wr : World) : Prop :=
  ∃ (j n : Nat) (L : List Vt) (dn : Int) (a : Option Addr) (c : Nat) (l : List Cf) (ka : Option Addr) (kc : Nat) (G : Nat → Prop), iv = .int .i64 j ∧ j ≤ N ∧ j ≤ 40 ∧ ClAt wr g bm r L n dn a c l l0 ka kc fa fc G ∧ Kept NoB w wr
theorem CfsAt.no2 {w w' : World} {F : Nat → Prop} {v : Value} {l : List Cf} (h : CfsAt w F v l) (hk : Kept NoB w w') : CfsAt w' F v l := h.kept hk (fun _ _ _ h => h)
theorem heap_blk {w : World} {k : Nat} {o : Obj} (h : w.heap[k]? = some o) : k < w.heap.size := heap_lt h
theorem VRd.far2 {w : World} {F : Nat → Prop} {v : Value} {L : List Vt} {r : Nat} {a b : Option Addr} {n c m d : Nat} {t : TypeId} (h : VRd w F v L) (hr : w.heap[r]? = some (.cells #[.slice a n c, .slice b m d] t (0, 0))) : VRd w (fun k => F k ∧ k ≠ r) v L := by
  obtain ⟨a', c', h1, h2, h3, h4, h5⟩ := h
  refine ⟨a', c', h1, h2, h3, h4, fun hp => ?_⟩
  obtain ⟨b', o, e, hF, hb, hc⟩ := h5 hp
  refine ⟨b', o, e, ⟨hF, ?_⟩, hb, hc⟩
  rintro rfl
  obtain ⟨e0, _⟩ := hc 0 hp
  simp only [Nat.zero_mul, Nat.add_zero] at e0
  match o with
  | 0 => rw [(cells2l hr).1] at e0; cases e0
  | 1 => rw [(cells2l hr).2.1] at e0; cases e0
  | o + 2 => simp [World.cell?, hr] at e0
def ClCut (w1 : World) (g bm r : Nat) (L2 : List Vt) (D : List Cf) (fa : Option Addr) (fn fc : Nat) (X : Int) (x13 x14 x15 : Value) (wc : World) : Prop :=
  ∃ (s13 : Nat) (ka : Option Addr) (kc : Nat) (oa : Option Addr) (oc : Nat), x13 = .pointer (some ⟨s13, 0, none⟩) ∧ x14 = .slice oa D.length oc ∧ x15 = .int .i64 X ∧ wc.heap[s13]? = some (.cells #[.slice ka L2.length kc, .slice fa fn fc] 63 (0, 0)) ∧
    CfsAt wc (fun i => i ≠ r ∧ i ≠ s13) (.slice oa D.length oc) D ∧ VRd wc (fun i => NL g bm i ∧ i ≠ r) (.slice ka L2.length kc) L2 ∧ Kept NoB w1 wc
set_option maxRecDepth 100000 in
set_option maxHeartbeats 4000000 in
theorem cl_loop (w : World) (v0 : Value) (N : Nat) (it : Nat → Vt) (hv : VtsAt w v0 N it) : True := trivial
set_option maxRecDepth 100000 in
set_option maxHeartbeats 4000000 in
theorem ChosenPlays_small (w : World) (v : Value) (l0 : List Cf) (u : Value) (N : Nat) (it : Nat → Vt) (ck cch cep cnd : Int) (hl : CfsAt w (fun _ => True) v l0) (hv : VtsAt w u N it) (hl6 : l0.length ≤ 6) (hA : AllC l0) (hc0 : 0 ≤ cep) (hc1 : cep ≤ 18446744073709551615) :
    Calls Try.prog 7 #[v, u, .agg #[.int .i64 ck, .int .i64 cch, .int .u64 cep, .int .i64 cnd]] w (BoolE true w) := by
  obtain ⟨fa, fc, rfl, _⟩ := id hl
  obtain ⟨ua, uc, rfl, hN63, hcells⟩ := hv
  have HCS := Lib.hid hcells
  have HL0 := Lib.hid hl
  have hNN : (N : Int) ≤ 9223372036854775807 := by omega
  have HCK := Lib.hid (chk_is ck cch cep cnd)
  have hb := heap_alloc_new w (.cells #[.int .i64 ck, .int .i64 cch, .int .u64 cep, .int .i64 cnd] 32)
  have hk0 := (Kept.refl NoB w).alloc (.cells #[.int .i64 ck, .int .i64 cch, .int .u64 cep, .int .i64 cnd] 32)
  obtain ⟨W, hW⟩ : ∃ W, W = w.alloc (.cells #[.int .i64 ck, .int .i64 cch, .int .u64 cep, .int .i64 cnd] 32) := ⟨_, rfl⟩
  have HWW := Lib.hid hW
  have HSW : Hid (w.heap.size < W.heap.size) := Lib.hid (by rw [hW]; simp)
  rw [← hW] at hb hk0
  have HB := Lib.hid hb
  have HK0 := Lib.hid hk0
  have HAA := Lib.hid hA
  clear hl hcells hb hk0 hW hA
  go_enter Try.func7, Try.ntmps7
  go_wp2_with fail
  rw [← HWW.out]
  have HLW := Lib.hid (HL0.out.kept HK0.out (fun _ _ _ h => h))
  refine (LNew_any W _ l0 _ HLW.out).mono ?_
  rintro e w1 hne
  rcases hne with ⟨_, g, bm, a1, c1, rfl, hlog, hg, hbm, hk1⟩ | ⟨hbad, _⟩
  · have HLOG := Lib.hid hlog
    have HK1 := Lib.hid hk1
    have HB1 := Lib.hid (hk1.heap (fun h => h) HB.out)
    have HGB : Hid (W.heap.size ≤ g ∧ W.heap.size ≤ bm) := Lib.hid ⟨hg, hbm⟩
    clear hlog hg hbm hk1
    go_wp2_with fail
    refine (RAll_yes _ l0 _ w1 (HLW.out.kept HK1.out (fun _ _ _ h => h)) (by omega) HAA.out).mono ?_
    rintro e w2 ⟨rfl, hk2⟩
    have HLOG2 := Lib.hid (HLOG.out.no hk2)
    have HK2 := Lib.hid (HK1.out.trans hk2 (fun _ _ h => h))
    have HB2 := Lib.hid (hk2.heap (fun h => h) HB1.out)
    clear hk2
    obtain ⟨r, hr⟩ : ∃ r, r = w2.heap.size := ⟨_, rfl⟩
    have HQ := heap_alloc_new w2 (.cells #[.slice none 0 0, .slice fa l0.length fc] 63)
    have hka := (Kept.refl NoB w2).alloc (.cells #[.slice none 0 0, .slice fa l0.length fc] 63)
    have HCL0 : Hid (ClAt (w2.alloc (.cells #[.slice none 0 0, .slice fa l0.length fc] 63)) g bm r [] 0 0 a1 c1 l0 l0 none 0 fa fc (fun k => (W.heap.size ≤ k ∧ NL g bm k) ∧ k ≠ r)) := Lib.hid (by
      have hlo := HLOG2.out.no hka
      have hlt := HLOG2.out.lt
      have hw := HK2.out.size
      refine ⟨⟨?_, ⟨VRd.nil _ _, ?_⟩, ⟨Nat.zero_le _, fun i hi h => absurd h (by omega), fun hi => absurd hi (by simp)⟩, rfl, rfl, by omega, fun i hi => hi.2⟩, fun k hk => hk.2, (fun v hv => by cases hv), by rw [hr]; exact HQ, by omega⟩
      · have := hlo.far2 HQ
        rw [← hr] at this
        exact this
      · have h1 := (HLW.out.mono (G := fun i => i < W.heap.size) (fun i hi _ => hi)).kept (HK2.out.trans hka (fun _ _ h => h)) (fun _ _ _ h => h)
        refine h1.mono (fun i hi h => ⟨⟨?_, by omega⟩, hi⟩)
        have := HGB.out
        have := HSW.out
        unfold NL
        omega)
    have HK3 := Lib.hid (HK2.out.alloc (.cells #[.slice none 0 0, .slice fa l0.length fc] 63))
    have HB3 := Lib.hid (blkA_alloc HB2.out (.cells #[.slice none 0 0, .slice fa l0.length fc] 63))
    have HRW : Hid (W.heap.size ≤ r) := Lib.hid (by rw [hr]; have := HK2.out.size; omega)
    clear HQ hka
    go_wp2_with fail
    rw [← hr]
    clear hr
    go_loopw [10] (ClRel W g bm r N l0 fa fc) (fun i _ => 40 - (RowKit.intOf i).toNat)
    case atStart => exact ⟨0, 0, [], 0, a1, c1, l0, none, 0, _, rfl, Nat.zero_le _, Nat.zero_le _, HCL0.out, HK3.out⟩
    case round =>
      obtain ⟨j, n, L, dn, a, c, l, ka, kc, G, rfl, hjN, hj40, hcl, hkr⟩ := hrel
      have HCL := Lib.hid hcl
      have HKr := Lib.hid hkr
      have hj0 : (0 : Int) ≤ (j : Int) := by omega
      clear hcl hkr
      by_cases hlt : j < N
      · by_cases h40 : j < 40
        · have hj1 : (j : Int) < (N : Int) := by omega
          have hj2 : (j : Int) < 40 := by omega
          obtain ⟨b, o, rfl, hbw, hc⟩ := HCS.out (by omega)
          obtain ⟨⟨e0, _, e2, e3, e4, e5⟩, hfit⟩ := hc j hlt
          clear hc
          obtain ⟨y, hy⟩ : ∃ y, y = it j := ⟨_, rfl⟩
          rw [← hy] at e0 e2 e3 e4 e5 hfit
          clear hy
          obtain ⟨vs, vb, vk, vch, vep, vnd⟩ := y
          unfold VtFit at hfit
          simp only at e0 e2 e3 e4 e5 hfit
          have hwf : (Lit.int .i64 vs).wf = true := WalkArith.wf_i64 (by omega)
          obtain ⟨X, L2, m, D, l2, dn2, hst, hl1, hl2⟩ := both_learn wr g bm r L n dn a c l l0 ka kc fa fc G HCL.out vs vk vch vep vnd hfit.2.2.2.2.1 hfit.2.2.2.2.2
          have HST := Lib.hid hst
          have HL1 := Lib.hid hl1
          have HL2 := Lib.hid hl2
          have HWF := Lib.hid hwf
          have HNB : Hid (¬ LB g bm b) := Lib.hid (by have := HGB.out; have := HSW.out; rintro (h | h) <;> omega)
          have HKwr := Lib.hid (HK0.out.trans HKr.out (fun _ _ h => h))
          have f0 := HKwr.out.cell (p := ⟨b, o + j * 6, none⟩) (fun h => h) e0
          have f2 := HKwr.out.cell (p := ⟨b, o + j * 6 + 2, none⟩) (fun h => h) e2
          have f3 := HKwr.out.cell (p := ⟨b, o + j * 6 + 3, none⟩) (fun h => h) e3
          have f4 := HKwr.out.cell (p := ⟨b, o + j * 6 + 4, none⟩) (fun h => h) e4
          have f5 := HKwr.out.cell (p := ⟨b, o + j * 6 + 5, none⟩) (fun h => h) e5
          have HE0 := Lib.hid e0
          have HE2 := Lib.hid e2
          have HE3 := Lib.hid e3
          have HE4 := Lib.hid e4
          have HE5 := Lib.hid e5
          have HKQ : Hid (Kept NoB wr wr.drew) := Lib.hid (Kept.refl NoB wr).drew
          clear hst hl1 hl2 hwf e0 e2 e3 e4 e5 hfit
          go_upto_region 10 with fail
          go_region_held3 (fun w' => w'.cell? ⟨b, o + j * 6, none⟩ = some (.int .i64 vs) ∧ w'.cell? ⟨b, o + j * 6 + 2, none⟩ = some (.int .i64 vk) ∧ w'.cell? ⟨b, o + j * 6 + 3, none⟩ = some (.int .i64 vch) ∧ w'.cell? ⟨b, o + j * 6 + 4, none⟩ = some (.int .u64 vep) ∧ w'.cell? ⟨b, o + j * 6 + 5, none⟩ = some (.int .i64 vnd))
            (first
              | (with_reducible exact ⟨cell_drew f0, cell_drew f2, cell_drew f3, cell_drew f4, cell_drew f5⟩)
              | (with_reducible exact ⟨kf0, kf2, kf3, kf4, kf5⟩)
              | go_keep)
            (first
              | (go_at_call 28; (with_reducible refine (HL1.out _ HKQ.out).mono ?_); rintro e wl ⟨oa, oc, a', c', G', rfl, hD, hlog, hk1⟩; have HDL := Lib.hid hD; have HLG := Lib.hid hlog; have HKA := Lib.hid ((HKQ.out.mono (T := LB g bm) (fun _ _ h => h.elim)).trans hk1 (fun _ _ h => h)); clear hD hlog hk1; have kf0 := HKA.out.cell (p := ⟨b, o + j * 6, none⟩) HNB.out f0; have kf2 := HKA.out.cell (p := ⟨b, o + j * 6 + 2, none⟩) HNB.out f2; have kf3 := HKA.out.cell (p := ⟨b, o + j * 6 + 3, none⟩) HNB.out f3; have kf4 := HKA.out.cell (p := ⟨b, o + j * 6 + 4, none⟩) HNB.out f4; have kf5 := HKA.out.cell (p := ⟨b, o + j * 6 + 5, none⟩) HNB.out f5))
          all_goals
            clear f0 f2 f3 f4 f5 kf0 kf2 kf3 kf4 kf5
            go_upto_region 11 with fail
            obtain ⟨W1, hW1⟩ := wname HKA.out
            rw [← hW1] at HKA HDL HLG ⊢
            clear hW1
            have HCLr := Lib.hid (HCL.out.row)
            have HRG := Lib.hid (HCL.out.rg)
            have HNR : Hid (¬ LB g bm r) := Lib.hid (by have := HRG.out; rintro (h | h) <;> omega)
            have hrow := HKA.out.heap HNR.out HCLr.out
            have HROW := Lib.hid hrow
            have f0 := HKA.out.cell (p := ⟨b, o + j * 6, none⟩) HNB.out (HKwr.out.cell (p := ⟨b, o + j * 6, none⟩) (fun h => h) HE0.out)
            have f2 := HKA.out.cell (p := ⟨b, o + j * 6 + 2, none⟩) HNB.out (HKwr.out.cell (p := ⟨b, o + j * 6 + 2, none⟩) (fun h => h) HE2.out)
            have f3 := HKA.out.cell (p := ⟨b, o + j * 6 + 3, none⟩) HNB.out (HKwr.out.cell (p := ⟨b, o + j * 6 + 3, none⟩) (fun h => h) HE3.out)
            have f4 := HKA.out.cell (p := ⟨b, o + j * 6 + 4, none⟩) HNB.out (HKwr.out.cell (p := ⟨b, o + j * 6 + 4, none⟩) (fun h => h) HE4.out)
            have f5 := HKA.out.cell (p := ⟨b, o + j * 6 + 5, none⟩) HNB.out (HKwr.out.cell (p := ⟨b, o + j * 6 + 5, none⟩) (fun h => h) HE5.out)
            obtain ⟨c0, c1, _, _⟩ := cells2l hrow
            have HF0 := Lib.hid f0
            have HRL : Hid (r < W1.heap.size) := Lib.hid (heap_lt hrow)
            have HBL : Hid (b < W1.heap.size) := Lib.hid (by have := HRL.out; have := HRW.out; have := HSW.out; omega)
            clear hrow
            go_cut [13, 14, 15] from 39 to 110 (ClCut W1 g bm r L2 D fa l0.length fc X)
            case first =>
              have HKQ : Hid (Kept NoB W1 W1.drew) := Lib.hid (Kept.refl NoB W1).drew
              have HKQ2 : Hid (Kept NoB W1 (W1.alloc (.cells #[.slice none 0 0, .slice none 0 0] 63)).drew) := Lib.hid ((Kept.refl NoB W1).alloc _).drew
              have HZW : Hid ((W1.alloc (.cells #[.slice none 0 0, .slice none 0 0] 63)).drew.heap[W1.heap.size]? = some (.cells #[.slice none 0 0, .slice none 0 0] 63 (0, 0))) := Lib.hid (heap_alloc_new W1 _)
              have HUP : Hid (∀ w', Kept NoB W1 w' → Kept (LB g bm) wr w') := Lib.hid (fun w' hk => HKA.out.trans hk (fun _ _ h => h.elim))
              have hq1 : ¬ W1.heap.size = r := fun h => by have := HRL.out; omega
              have hq2 : ¬ r = W1.heap.size := fun h => hq1 h.symm
              have hq3 : ¬ W1.heap.size = b := fun h => by have := HBL.out; omega
              have hq4 : ¬ b = W1.heap.size := fun h => hq3 h.symm
              go_region_held3 (fun w' => w'.cell? ⟨r, 0, none⟩ = some (.slice ka L.length kc) ∧ w'.cell? ⟨r, 1, none⟩ = some (.slice fa l0.length fc) ∧ w'.cell? ⟨b, o + j * 6, none⟩ = some (.int .i64 vs) ∧ w'.cell? ⟨b, o + j * 6 + 2, none⟩ = some (.int .i64 vk) ∧ w'.cell? ⟨b, o + j * 6 + 3, none⟩ = some (.int .i64 vch) ∧ w'.cell? ⟨b, o + j * 6 + 4, none⟩ = some (.int .u64 vep) ∧ w'.cell? ⟨b, o + j * 6 + 5, none⟩ = some (.int .i64 vnd))
                (first
                  | (with_reducible exact ⟨cell_drew c0, cell_drew c1, cell_drew f0, cell_drew f2, cell_drew f3, cell_drew f4, cell_drew f5⟩)
                  | (with_reducible exact ⟨cell_drew (cell_alloc c0 _), cell_drew (cell_alloc c1 _), cell_drew (cell_alloc f0 _), cell_drew (cell_alloc f2 _), cell_drew (cell_alloc f3 _), cell_drew (cell_alloc f4 _), cell_drew (cell_alloc f5 _)⟩)
                  | (with_reducible exact ⟨kc0, kc1, kf0, kf2, kf3, kf4, kf5⟩)
                  | (with_reducible exact ⟨cell_alloc kc0 _, cell_alloc kc1 _, cell_alloc kf0 _, cell_alloc kf2 _, cell_alloc kf3 _, cell_alloc kf4 _, cell_alloc kf5 _⟩)
                  | go_keep)
                (first
                  | (go_at_call 29; (with_reducible refine (HL2.out _ (HUP.out _ HKQ.out)).mono ?_); rintro e w6 ⟨ka2, kc2, oa2, oc2, rfl, hD2, hvr, hk6⟩; have HD2 := Lib.hid hD2; have HV2 := Lib.hid hvr; have HKB := Lib.hid (HKQ.out.trans hk6 (fun _ _ h => h)); clear hD2 hvr hk6; have kc0 := HKB.out.cell (p := ⟨r, 0, none⟩) (fun h => h) c0; have kc1 := HKB.out.cell (p := ⟨r, 1, none⟩) (fun h => h) c1; have kf0 := HKB.out.cell (p := ⟨b, o + j * 6, none⟩) (fun h => h) f0; have kf2 := HKB.out.cell (p := ⟨b, o + j * 6 + 2, none⟩) (fun h => h) f2; have kf3 := HKB.out.cell (p := ⟨b, o + j * 6 + 3, none⟩) (fun h => h) f3; have kf4 := HKB.out.cell (p := ⟨b, o + j * 6 + 4, none⟩) (fun h => h) f4; have kf5 := HKB.out.cell (p := ⟨b, o + j * 6 + 5, none⟩) (fun h => h) f5)
                  | (go_at_call 29; (with_reducible refine (HL2.out _ (HUP.out _ HKQ2.out)).mono ?_); rintro e w6 ⟨ka2, kc2, oa2, oc2, rfl, hD2, hvr, hk6⟩; have HD2 := Lib.hid hD2; have HV2 := Lib.hid hvr; have HKB := Lib.hid (HKQ2.out.trans hk6 (fun _ _ h => h)); have HZ6 := Lib.hid (hk6.heap (fun h => h) HZW.out); obtain ⟨x0, x1, z0, z1⟩ := cells2l HZ6.out; clear hD2 hvr hk6; have kc0 := HKB.out.cell (p := ⟨r, 0, none⟩) (fun h => h) c0; have kc1 := HKB.out.cell (p := ⟨r, 1, none⟩) (fun h => h) c1; have kf0 := HKB.out.cell (p := ⟨b, o + j * 6, none⟩) (fun h => h) f0; have kf2 := HKB.out.cell (p := ⟨b, o + j * 6 + 2, none⟩) (fun h => h) f2; have kf3 := HKB.out.cell (p := ⟨b, o + j * 6 + 3, none⟩) (fun h => h) f3; have kf4 := HKB.out.cell (p := ⟨b, o + j * 6 + 4, none⟩) (fun h => h) f4; have kf5 := HKB.out.cell (p := ⟨b, o + j * 6 + 5, none⟩) (fun h => h) f5))
              · have HREL : Hid (ClCut W1 g bm r L2 D fa l0.length fc X (.pointer (some ⟨w6.heap.size, 0, none⟩)) (.slice oa2 D.length oc2) (.int .i64 X) (w6.alloc (.cells #[.slice ka2 L2.length kc2, .slice fa l0.length fc] 63))) := Lib.hid ⟨_, ka2, kc2, oa2, oc2, rfl, rfl, rfl, heap_alloc_new _ _,
                  (HD2.out.mono (G := fun i => i ≠ r ∧ i ≠ w6.heap.size) (fun i hi h => ⟨h, by omega⟩)).kept ((Kept.refl NoB w6).alloc _) (fun _ _ _ h => h), HV2.out.no ((Kept.refl NoB w6).alloc _), HKB.out.alloc _⟩
                clear c0 c1 f0 f2 f3 f4 f5 kc0 kc1 kf0 kf2 kf3 kf4 kf5 hq1 hq2 hq3 hq4
                go_wp2_with fail
                go_meet
                exact HREL.out
              · have HREL : Hid (ClCut W1 g bm r L2 D fa l0.length fc X (.pointer (some ⟨W1.heap.size, 0, none⟩)) (.slice oa2 D.length oc2) (.int .i64 X) ((w6.setCell ⟨W1.heap.size, 0, none⟩ (.slice ka2 L2.length kc2)).setCell ⟨W1.heap.size, 1, none⟩ (.slice fa l0.length fc))) := Lib.hid (by
                  have hks := ((Kept.refl (fun i => i = W1.heap.size) w6).setCell (p := ⟨W1.heap.size, 0, none⟩) (.inl rfl) (.slice ka2 L2.length kc2)).setCell (p := ⟨W1.heap.size, 1, none⟩) (.inl rfl) (.slice fa l0.length fc)
                  exact ⟨_, ka2, kc2, oa2, oc2, rfl, rfl, rfl, blkA_set (blkA_set HZ6.out 0 _) 1 _, (HD2.out.far2 HZ6.out).kept hks (fun i _ h e => h.2 e), ((HV2.out.far2 HZ6.out).kept hks (fun i h e => h.2 e)).mono (fun i _ h => h.1),
                    (HKB.out.setCell (p := ⟨W1.heap.size, 0, none⟩) (.inr (Nat.le_refl _)) (.slice ka2 L2.length kc2)).setCell (p := ⟨W1.heap.size, 1, none⟩) (.inr (Nat.le_refl _)) (.slice fa l0.length fc)⟩)
                clear c0 c1 f0 f2 f3 f4 f5 kc0 kc1 kf0 kf2 kf3 kf4 kf5 hq1 hq2 hq3 hq4 x0 x1 z0 z1
                go_wp2_with fail
                go_meet
                exact HREL.out
            case rest =>
              obtain ⟨s13, ka2, kc2, oa2, oc2, rfl, rfl, rfl, hr13, hcf, hvr, hkc⟩ := hcut
              have HROWc := Lib.hid (hkc.heap (fun h => h) HROW.out)
              have HCFc := Lib.hid hcf
              have HLGc := Lib.hid ((HLG.out.no hkc).far2 HROWc.out)
              have HDLc := Lib.hid ((HDL.out.no2 hkc).far2 HROWc.out)
              have HKc1 := Lib.hid hkc
              have HVRc := Lib.hid hvr
              clear c0 c1 f0 f2 f3 f4 f5 hcf hvr hkc
              obtain ⟨x0, x1, _, _⟩ := cells2l hr13
              obtain ⟨c0, c1, g0, g1⟩ := cells2l HROWc.out
              clear hr13
              have HKS := Lib.hid (((Kept.refl (fun i => i = r) wc).setCell (p := ⟨r, 0, none⟩) (.inl rfl) (.slice ka2 L2.length kc2)).setCell (p := ⟨r, 1, none⟩) (.inl rfl) (.slice fa l0.length fc))
              have HRD := Lib.hid (blkA_set (blkA_set HROWc.out 0 (.slice ka2 L2.length kc2)) 1 (.slice fa l0.length fc))
              go_upto_region 13 with fail
              clear c0 c1 g0 g1 x0 x1
              have HGR : Hid (W.heap.size ≤ g ∧ W.heap.size ≤ bm ∧ W.heap.size ≤ r) := Lib.hid ⟨HGB.out.1, HGB.out.2, HRW.out⟩
              have HK3 : Hid (Kept NoB W ((wc.setCell ⟨r, 0, none⟩ (.slice ka2 L2.length kc2)).setCell ⟨r, 1, none⟩ (.slice fa l0.length fc))) := Lib.hid ((((HKr.out.trans HKA.out (fun i hi h => by have := HGR.out; rcases h with h | h <;> omega)).trans HKc1.out (fun _ _ h => h)).setCell (p := ⟨r, 0, none⟩) (.inr HGR.out.2.2) (.slice ka2 L2.length kc2)).setCell (p := ⟨r, 1, none⟩) (.inr HGR.out.2.2) (.slice fa l0.length fc))
              obtain ⟨W3, hW3⟩ : ∃ x, x = (wc.setCell ⟨r, 0, none⟩ (.slice ka2 L2.length kc2)).setCell ⟨r, 1, none⟩ (.slice fa l0.length fc) := ⟨_, rfl⟩
              rw [← hW3] at HK3 HKS HRD ⊢
              clear hW3
              have HCLN : Hid (ClAt W3 g bm r L2 m dn2 a' c' l2 l0 ka2 kc2 fa fc (fun k => G' k ∧ k ≠ r)) := Lib.hid (by
                have hz := HKS.out.size
                have hz2 := HKc1.out.size
                have hz3 := HKA.out.size
                refine ⟨⟨HLGc.out.kept HKS.out (fun e => HRG.out.1 e.symm) (fun e => HRG.out.2 e.symm) (fun i _ h e => h.2 e), ⟨?_, ?_⟩, HST.out.lead, HST.out.now, HST.out.done, HCL.out.sm.few, fun i hi => hi.2⟩, fun k hk => hk.2, HST.out.b0, HRD.out, HRG.out⟩
                · exact (HVRc.out.kept HKS.out (fun i h e => h.2 e)).mono (fun i hi h => ⟨h, hi⟩)
                · have h1 := HCL.out.sm.ref.first.kept HKA.out (fun i _ h e => by have := h.1.1; unfold NL at this; rcases e with e | e <;> omega)
                  have h2 := (h1.no2 HKc1.out).kept HKS.out (fun i _ h e => h.1.2 e)
                  exact h2.mono (fun i hi h => ⟨h.1, hi⟩))
              have HCO : Hid (∀ w', Kept NoB W3 w' → Calls Try.prog 34 #[.agg #[.slice ka2 L2.length kc2, .slice fa l0.length fc]] w' fun e w'' => ∃ na nc, e = .returned (.slice na l2.length nc) ∧ CfsAt w'' (fun _ => True) (.slice na l2.length nc) l2 ∧ Kept NoB w' w'') := Lib.hid (fun w' hk => by
                have hc := HCLN.out.no hk
                have hkn := hc.sm.log.known
                refine (RConfs_any w' (PF g bm r w') ka2 fa kc2 fc L2 l0 m hc.sm.ref (by omega) hc.sm.few (fun i hi => hi.2) (fun v hv => ⟨(hc.sm.log.ok v hv).2, (hc.sm.log.ok v hv).1.2.2.2.2.1⟩) HST.out.lead).mono fun e w'' ⟨na, nc, h1, h2, h3⟩ => ?_
                rw [← HST.out.now] at h1 h2
                exact ⟨na, nc, h1, h2.mono (fun _ _ _ => trivial), h3⟩)
              have hl2 : l2.length ≤ 1000 := HCLN.out.sm.log.few
              obtain ⟨z, hz⟩ : ∃ z, z = canC l2 (chk ck cch cep cnd) ck cch cep cnd := ⟨_, rfl⟩
              have HCA : Hid (∀ w', Kept NoB W3 w' → Calls Try.prog 32 #[.pointer (some ⟨g, 0, none⟩), .agg #[.int .i64 ck, .int .i64 cch, .int .u64 cep, .int .i64 cnd]] w' (IntE z w')) := Lib.hid (fun w' hk => hz ▸ LCan_any w' _ g bm L2 m dn2 a' c' l2 _ ck cch cep cnd (HCLN.out.no hk).sm.log HCK.out hc0)
              have HRCA : Hid (∀ w' v, CfsAt w' (fun _ => True) v l2 → Calls Try.prog 33 #[v, .agg #[.int .i64 ck, .int .i64 cch, .int .u64 cep, .int .i64 cnd]] w' (IntE z w')) := Lib.hid (fun w' v hv => hz ▸ RCan_any v l2 _ ck cch cep cnd _ w' hv hl2 HCK.out hc0)
              have HSA : Hid (∀ w', Kept NoB W3 w' → Calls Try.prog 30 #[.slice oa D.length oc, .slice oa2 D.length oc2] w' (BoolE true w')) := Lib.hid (fun w' hk => by
                have := SameAll_any _ _ D D _ _ w' ((HDLc.out.kept HKS.out (fun i _ h e => h.2 e)).no2 hk) ((HCFc.out.kept HKS.out (fun i _ h e => h.1 e)).no2 hk)
                rwa [decide_eq_true rfl] at this)
              have HSM : Hid (∀ w', Kept NoB W3 w' → Calls Try.prog 31 #[.pointer (some ⟨g, 0, none⟩), .agg #[.slice ka2 L2.length kc2, .slice fa l0.length fc], .int .i64 vs] w' (BoolE true w')) := Lib.hid (fun w' hk => same_yes w' _ _ g bm L2 m dn2 a' c' l2 l0 ka2 kc2 fa fc vs (HCLN.out.no hk).sm HWF.out)
              clear hz hl2
              obtain ⟨c0, c1, _, _⟩ := cells2l HRD.out
              obtain ⟨d0, d1, d2, d3⟩ := cells4c (HK3.out.heap (fun h => h) HB.out)
              have f0 := HK3.out.cell (p := ⟨b, o + j * 6, none⟩) (fun h => h) (HK0.out.cell (p := ⟨b, o + j * 6, none⟩) (fun h => h) HE0.out)
              have HKc := Lib.hid (Kept.refl NoB W3).drew
              go_region_held3 (fun w' => w'.cell? ⟨r, 0, none⟩ = some (.slice ka2 L2.length kc2) ∧ w'.cell? ⟨r, 1, none⟩ = some (.slice fa l0.length fc) ∧ w'.cell? ⟨w.heap.size, 0, none⟩ = some (.int .i64 ck) ∧ w'.cell? ⟨w.heap.size, 1, none⟩ = some (.int .i64 cch) ∧ w'.cell? ⟨w.heap.size, 2, none⟩ = some (.int .u64 cep) ∧ w'.cell? ⟨w.heap.size, 3, none⟩ = some (.int .i64 cnd) ∧ w'.cell? ⟨b, o + j * 6, none⟩ = some (.int .i64 vs))
                (first
                  | (with_reducible exact ⟨cell_drew c0, cell_drew c1, cell_drew d0, cell_drew d1, cell_drew d2, cell_drew d3, cell_drew f0⟩)
                  | (with_reducible exact ⟨kc0, kc1, kd0, kd1, kd2, kd3, kf0⟩)
                  | go_keep)
                (first
                  | (go_at_call 30; (with_reducible refine (HSA.out _ HKc.out).mono ?_); rintro e w7 ⟨rfl, hk7⟩; (try replace HCC := Lib.hid (HCC.out.no2 hk7)); replace HKc := Lib.hid (HKc.out.trans hk7 (fun _ _ h => h)); clear hk7; have kc0 := HKc.out.cell (p := ⟨r, 0, none⟩) (fun h => h) c0; have kc1 := HKc.out.cell (p := ⟨r, 1, none⟩) (fun h => h) c1; have kd0 := HKc.out.cell (p := ⟨w.heap.size, 0, none⟩) (fun h => h) d0; have kd1 := HKc.out.cell (p := ⟨w.heap.size, 1, none⟩) (fun h => h) d1; have kd2 := HKc.out.cell (p := ⟨w.heap.size, 2, none⟩) (fun h => h) d2; have kd3 := HKc.out.cell (p := ⟨w.heap.size, 3, none⟩) (fun h => h) d3; have kf0 := HKc.out.cell (p := ⟨b, o + j * 6, none⟩) (fun h => h) f0)
                  | (go_at_call 31; (with_reducible refine (HSM.out _ HKc.out).mono ?_); rintro e w7 ⟨rfl, hk7⟩; (try replace HCC := Lib.hid (HCC.out.no2 hk7)); replace HKc := Lib.hid (HKc.out.trans hk7 (fun _ _ h => h)); clear hk7; have kc0 := HKc.out.cell (p := ⟨r, 0, none⟩) (fun h => h) c0; have kc1 := HKc.out.cell (p := ⟨r, 1, none⟩) (fun h => h) c1; have kd0 := HKc.out.cell (p := ⟨w.heap.size, 0, none⟩) (fun h => h) d0; have kd1 := HKc.out.cell (p := ⟨w.heap.size, 1, none⟩) (fun h => h) d1; have kd2 := HKc.out.cell (p := ⟨w.heap.size, 2, none⟩) (fun h => h) d2; have kd3 := HKc.out.cell (p := ⟨w.heap.size, 3, none⟩) (fun h => h) d3; have kf0 := HKc.out.cell (p := ⟨b, o + j * 6, none⟩) (fun h => h) f0)
                  | (go_at_call 32; (with_reducible refine (HCA.out _ HKc.out).mono ?_); rintro e w7 ⟨rfl, hk7⟩; (try replace HCC := Lib.hid (HCC.out.no2 hk7)); replace HKc := Lib.hid (HKc.out.trans hk7 (fun _ _ h => h)); clear hk7; have kc0 := HKc.out.cell (p := ⟨r, 0, none⟩) (fun h => h) c0; have kc1 := HKc.out.cell (p := ⟨r, 1, none⟩) (fun h => h) c1; have kd0 := HKc.out.cell (p := ⟨w.heap.size, 0, none⟩) (fun h => h) d0; have kd1 := HKc.out.cell (p := ⟨w.heap.size, 1, none⟩) (fun h => h) d1; have kd2 := HKc.out.cell (p := ⟨w.heap.size, 2, none⟩) (fun h => h) d2; have kd3 := HKc.out.cell (p := ⟨w.heap.size, 3, none⟩) (fun h => h) d3; have kf0 := HKc.out.cell (p := ⟨b, o + j * 6, none⟩) (fun h => h) f0)
                  | (go_at_call 34; (with_reducible refine (HCO.out _ HKc.out).mono ?_); rintro e w7 ⟨na7, nc7, rfl, hcc, hk7⟩; (try replace HCC := Lib.hid (HCC.out.no2 hk7)); replace HKc := Lib.hid (HKc.out.trans hk7 (fun _ _ h => h)); clear hk7; have kc0 := HKc.out.cell (p := ⟨r, 0, none⟩) (fun h => h) c0; have kc1 := HKc.out.cell (p := ⟨r, 1, none⟩) (fun h => h) c1; have kd0 := HKc.out.cell (p := ⟨w.heap.size, 0, none⟩) (fun h => h) d0; have kd1 := HKc.out.cell (p := ⟨w.heap.size, 1, none⟩) (fun h => h) d1; have kd2 := HKc.out.cell (p := ⟨w.heap.size, 2, none⟩) (fun h => h) d2; have kd3 := HKc.out.cell (p := ⟨w.heap.size, 3, none⟩) (fun h => h) d3; have kf0 := HKc.out.cell (p := ⟨b, o + j * 6, none⟩) (fun h => h) f0; have HCC := Lib.hid hcc; clear hcc)
                  | (go_at_call 33; (with_reducible refine (HRCA.out _ _ HCC.out).mono ?_); rintro e w7 ⟨rfl, hk7⟩; (try replace HCC := Lib.hid (HCC.out.no2 hk7)); replace HKc := Lib.hid (HKc.out.trans hk7 (fun _ _ h => h)); clear hk7; have kc0 := HKc.out.cell (p := ⟨r, 0, none⟩) (fun h => h) c0; have kc1 := HKc.out.cell (p := ⟨r, 1, none⟩) (fun h => h) c1; have kd0 := HKc.out.cell (p := ⟨w.heap.size, 0, none⟩) (fun h => h) d0; have kd1 := HKc.out.cell (p := ⟨w.heap.size, 1, none⟩) (fun h => h) d1; have kd2 := HKc.out.cell (p := ⟨w.heap.size, 2, none⟩) (fun h => h) d2; have kd3 := HKc.out.cell (p := ⟨w.heap.size, 3, none⟩) (fun h => h) d3; have kf0 := HKc.out.cell (p := ⟨b, o + j * 6, none⟩) (fun h => h) f0))
              all_goals
                have HRELN : Hid (ClRel W g bm r N l0 fa fc (.int .i64 ((j : Int) + 1)) w7) := Lib.hid ⟨j + 1, m, L2, dn2, a', c', l2, ka2, kc2, _, by go_num, by omega, by omega, HCLN.out.no HKc.out, HK3.out.trans HKc.out (fun _ _ h => h)⟩
                clear c0 c1 d0 d1 d2 d3 f0 kc0 kc1 kd0 kd1 kd2 kd3 kf0
                go_wp2
                exact ⟨HRELN.out, by simp [RowKit.intOf]; omega⟩
        · have hj3 : decide ((j : Int) < 40) = false := decide_eq_false (by omega)
          have hj1 : (j : Int) < (N : Int) := by omega
          go_wp2_with fail
          refine (awake12 _).mono ?_
          rintro e w5 ⟨rfl, hk5⟩
          have HK5 := Lib.hid (HK0.out.trans (HKr.out.trans hk5 (fun _ _ h => h)) (fun _ _ h => h))
          clear hk5
          go_wp2
          go_ret
          exact ⟨rfl, HK5.out⟩
      · have hj3 : decide ((j : Int) < (N : Int)) = false := decide_eq_false (by omega)
        go_wp2_with fail
        refine (awake12 _).mono ?_
        rintro e w5 ⟨rfl, hk5⟩
        have HK5 := Lib.hid (HK0.out.trans (HKr.out.trans hk5 (fun _ _ h => h)) (fun _ _ h => h))
        clear hk5
        go_wp2
        go_ret
        exact ⟨rfl, HK5.out⟩
  · exact absurd HAA.out hbad
end Go.Proofs.Ytjbchnildeeicaa
namespace Go.Proofs.Ytjbchnildeeicaa
open Go.RowKit
set_option linter.unusedVariables false

set_option maxRecDepth 100000 in
set_option maxHeartbeats 1000000 in
theorem ChosenPlays_bad (w : World) (fa : Option Addr) (n fc : Nat) (u : Value) (ck cch cep cnd : Int) (hn : n ≤ 6)
    (h1 : ∀ w', Kept NoB w w' → Calls Try.prog 26 #[.slice fa n fc] w' fun e w'' => e = .returned (.tuple #[.pointer none, .int .i64 1]) ∧ Kept NoB w' w'')
    (h2 : ∀ w', Kept NoB w w' → Calls Try.prog 27 #[.slice fa n fc] w' (BoolE false w')) :
    Calls Try.prog 7 #[.slice fa n fc, u, .agg #[.int .i64 ck, .int .i64 cch, .int .u64 cep, .int .i64 cnd]] w (BoolE true w) := by
  have H1 := Lib.hid h1
  have H2 := Lib.hid h2
  have HK := Lib.hid ((Kept.refl NoB w).alloc (.cells #[.int .i64 ck, .int .i64 cch, .int .u64 cep, .int .i64 cnd] 32))
  have hn6 : decide (6 < (n : Int)) = false := decide_eq_false (by omega)
  clear h1 h2
  go_enter Try.func7, Try.ntmps7
  go_wp2_with fail
  refine (H1.out _ HK.out).mono ?_
  rintro e w1 ⟨rfl, hk1⟩
  have HK1 := Lib.hid (HK.out.trans hk1 (fun _ _ h => h))
  clear hk1
  go_wp2_with fail
  refine (H2.out _ HK1.out).mono ?_
  rintro e w2 ⟨rfl, hk2⟩
  have HK2 := Lib.hid (HK1.out.trans hk2 (fun _ _ h => h))
  clear hk2
  go_wp2_with fail
  refine (awake12 _).mono ?_
  rintro e w3 ⟨rfl, hk3⟩
  have HK3 := Lib.hid (HK2.out.trans hk3 (fun _ _ h => h))
  clear hk3
  go_wp2
  go_ret
  exact ⟨rfl, HK3.out⟩
set_option maxRecDepth 100000 in
set_option maxHeartbeats 1000000 in
theorem ChosenPlays_any (w : World) (v : Value) (l : List Cf) (u : Value) (N : Nat) (it : Nat → Vt) (ck cch cep cnd : Int) (hl : CfsR w (fun _ => True) v l) (hv : VtsAt w u N it) (hc0 : 0 ≤ cep) (hc1 : cep ≤ 18446744073709551615) :
    Calls Try.prog 7 #[v, u, .agg #[.int .i64 ck, .int .i64 cch, .int .u64 cep, .int .i64 cnd]] w (BoolE true w) := by
  obtain ⟨fa, fc, rfl, hcap, hmax, _⟩ := id hl
  by_cases h6 : 6 < l.length
  · have HK := Lib.hid ((Kept.refl NoB w).alloc (.cells #[.int .i64 ck, .int .i64 cch, .int .u64 cep, .int .i64 cnd] 32))
    have hn6 : decide (6 < (l.length : Int)) = true := decide_eq_true (by omega)
    clear hl hv
    go_enter Try.func7, Try.ntmps7
    go_wp2_with fail
    refine (awake12 _).mono ?_
    rintro e w3 ⟨rfl, hk3⟩
    have HK3 := Lib.hid (HK.out.trans hk3 (fun _ _ h => h))
    clear hk3
    go_wp2
    go_ret
    exact ⟨rfl, HK3.out⟩
  · have h6' : l.length ≤ 6 := by omega
    rcases great_first l with hf | ⟨K, hK, hg, hf⟩
    · have hs := hl.part l.length (Nat.le_refl _) hf
      rw [List.take_length] at hs
      by_cases hA : AllC l
      · exact ChosenPlays_small w _ l u N it ck cch cep cnd hs hv h6' hA hc0 hc1
      · exact ChosenPlays_bad w fa l.length fc u ck cch cep cnd h6'
          (fun w' hk => (LNew_any w' _ l _ (hs.kept hk (fun _ _ _ h => h))).mono fun e w'' hne => by
            rcases hne with ⟨h, _⟩ | ⟨_, h1, h2⟩
            · exact absurd h hA
            · exact ⟨h1, h2⟩)
          (fun w' hk => RAll_no _ l _ w' (hs.kept hk (fun _ _ _ h => h)) (by omega) hA)
    · exact ChosenPlays_bad w fa l.length fc u ck cch cep cnd h6'
        (fun w' hk => LNew_great w' _ l _ (hl.kept hk (fun _ _ _ h => h)) (by omega) K hK hg hf)
        (fun w' hk => RAll_great _ l _ w' (hl.kept hk (fun _ _ _ h => h)) (by omega) K hK hg hf)
end Go.Proofs.Ytjbchnildeeicaa
