/-
  Great configurations (of more than a thousand nodes): neither Right nor the chapter's holds of one. All of a list with a configuration of more than a thousand nodes: false. Written by wip/mkchor.py.
-/
import Derived.Test.YtclfecninhipnaaGreatDoorCnf3
import Derived.Test.YtclfecninhipnaaGreatDoorCnf2
namespace Go.Proofs.YtclfecninhipnaaGreatDoor
open Go.RowKit
set_option linter.unusedVariables false

set_option maxRecDepth 100000 in
set_option maxHeartbeats 2000000 in
theorem Right_great (v : Value) (c : Cf) (F : Nat → Prop) (w : World) (h : CfR w F v c) (hg : 1000 < c.ns.length) : Calls Tryz.prog 48 #[v] w (BoolE false w) := by
  obtain ⟨u, rfl, hn, h0, htop⟩ := h
  obtain ⟨a, cap, rfl, hn1, hn2, _⟩ := id hn
  obtain ⟨ch, ep, ns, fr, jn⟩ := c
  simp only at hg h0 htop hn1 hn2 ⊢
  obtain ⟨n, hnn⟩ : ∃ x, x = ns.length := ⟨_, rfl⟩
  rw [← hnn] at hg hn1 ⊢
  unfold maxLen at hn2
  clear hnn hn
  have hd1 : decide (6 < (n : Int)) = true := decide_eq_true (by omega)
  have hd2 : ((n : Int) == 0) = false := by
    have : (n : Int) ≠ 0 := by omega
    simpa using this
  obtain ⟨c0, c1, c2, c3, c4⟩ := cells5 (heap_alloc_new w (.cells #[.int .i64 ch, .int .u64 ep, .slice a n cap, .bool fr, .int .i64 jn] 44))
  go_enter Tryz.func48, Tryz.ntmps48
  go_wp2
  all_goals go_ret
  all_goals exact ⟨rfl, (Kept.refl _ _).alloc _⟩
/-- The first few of them are a slice of small ones. -/
theorem CfsR.part {w : World} {F : Nat → Prop} {a : Option Addr} {cap : Nat} {l : List Cf} (h : CfsR w F (.slice a l.length cap) l) (k : Nat) (hk : k ≤ l.length) (hf : ∀ j, j < k → (nthC l j).ns.length ≤ 1000) : CfsAt w F (.slice a k cap) (l.take k) := by
  obtain ⟨a', cap', e, h2, h3, h4, h5⟩ := h
  injection e with e1 e2 e3
  subst e1 e3
  have hl : (l.take k).length = k := List.length_take_of_le hk
  refine ⟨_, _, by rw [hl], by rw [hl]; omega, h3, h4, fun hp => ?_⟩
  rw [hl] at hp
  obtain ⟨b, o, rfl, hF, hb, hc⟩ := h5 (by omega)
  refine ⟨b, o, rfl, hF, hb, fun j hj => ?_⟩
  rw [hl] at hj
  rw [nthC_take hj]
  obtain ⟨u, e0, e1, e2, e3, e4, hn, q0, q1⟩ := hc j (by omega)
  exact ⟨u, e0, e1, e2, e3, e4, hn, q0, q1, hf j hj⟩
/-- All are small, or there is a first great one. -/
theorem great_first (l : List Cf) : (∀ j, j < l.length → (nthC l j).ns.length ≤ 1000) ∨ ∃ k, k < l.length ∧ 1000 < (nthC l k).ns.length ∧ ∀ j, j < k → (nthC l j).ns.length ≤ 1000 := by
  have : ∀ m : Nat, m ≤ l.length → (∀ j, j < m → (nthC l j).ns.length ≤ 1000) ∨ ∃ k, k < l.length ∧ 1000 < (nthC l k).ns.length ∧ ∀ j, j < k → (nthC l j).ns.length ≤ 1000 := by
    intro m
    induction m with
    | zero => exact fun _ => .inl (fun j h => absurd h (by omega))
    | succ m ih =>
      intro hm
      rcases ih (by omega) with h | h
      · by_cases e : (nthC l m).ns.length ≤ 1000
        · exact .inl (fun j hj => by
            by_cases e2 : j = m
            · subst e2; exact e
            · exact h j (by omega))
        · exact .inr ⟨m, by omega, by omega, h⟩
      · exact .inr h
  exact this l.length (Nat.le_refl _)
end Go.Proofs.YtclfecninhipnaaGreatDoor
namespace Go.Proofs.YtclfecninhipnaaGreatDoor
open Go.RowKit
set_option linter.unusedVariables false

theorem CfsR.kept {S F : Nat → Prop} {w w' : World} {v : Value} {l : List Cf} (h : CfsR w F v l) (hk : Kept S w w') (hs : ∀ k, k < w.heap.size → F k → ¬ S k) : CfsR w' F v l := by
  obtain ⟨a, cap, h1, h2, h3, h4, h5⟩ := h
  refine ⟨a, cap, h1, h2, h3, h4, fun hl => ?_⟩
  obtain ⟨b, o, ha, hF, hb, hc⟩ := h5 hl
  have hb' : ¬ S b := hs b hb hF
  refine ⟨b, o, ha, hF, Nat.lt_of_lt_of_le hb hk.size, fun j hj => ?_⟩
  obtain ⟨u, e0, e1, e2, e3, e4, hn, q0, q1⟩ := hc j hj
  exact ⟨u, hk.cell hb' e0, hk.cell hb' e1, hk.cell hb' e2, hk.cell hb' e3, hk.cell hb' e4, hn.kept hk hs, q0, q1⟩
theorem CfsR.at_ {F : Nat → Prop} {w : World} {a : Option Addr} {n cap : Nat} {l : List Cf} (h : CfsR w F (.slice a n cap) l) {j : Nat} (hj : j < l.length) :
    ∃ b o, a = some ⟨b, o, none⟩ ∧ F b ∧ b < w.heap.size ∧ CfL w F b (o + j * 5) (nthC l j) := by
  obtain ⟨a', cap', h1, h2, h3, h4, h5⟩ := h
  injection h1 with h1 _ _
  subst h1
  obtain ⟨b, o, ha, hF, hb, hc⟩ := h5 (by omega)
  exact ⟨b, o, ha, hF, hb, hc j hj⟩
theorem All1_great (v : Value) (l : List Cf) (x : Int) (k gl gi : Nat) (F : Nat → Prop) (w : World) (h : CfsR w F v l) (hk : k ≤ l.length) (hf : ∀ j, j < k → (nthC l j).ns.length ≤ 1000) (hgl : w.cell? ⟨gl, 0, none⟩ = some v) (hgi : w.cell? ⟨gi, 0, none⟩ = some (.int .i64 k)) :
    Calls Tryz.prog 46 #[.int .i64 x, .pointer (some ⟨gl, 0, none⟩), .pointer (some ⟨gi, 0, none⟩)] w (BoolE (usedB (l.take k) x) w) := by
  obtain ⟨a, cap, rfl, hc, hcm, _⟩ := id h
  have hl : l.length ≤ 9223372036854775807 := by unfold maxLen at hcm; omega
  have HU := Lib.hid (Used_any _ _ x F w (h.part k hk hf))
  have hk2 : (k : Int) ≤ (cap : Int) := by omega
  obtain ⟨d, hd⟩ : ∃ d, d = usedB (l.take k) x := ⟨_, rfl⟩
  rw [← hd] at HU ⊢
  clear h hd
  go_enter Tryz.func46, Tryz.ntmps46
  go_wp2_with fail
  refine HU.out.mono ?_
  rintro e w1 ⟨rfl, hk⟩
  have HK := Lib.hid hk
  clear hk
  go_wp2
  go_ret
  exact ⟨rfl, HK.out⟩
set_option maxRecDepth 100000 in
set_option maxHeartbeats 3000000 in
theorem All_great (v : Value) (l : List Cf) (F : Nat → Prop) (w : World) (h : CfsR w F v l) (hlen : l.length ≤ 1000) (K : Nat) (hK : K < l.length) (hg : 1000 < (nthC l K).ns.length) (hf : ∀ j, j < K → (nthC l j).ns.length ≤ 1000) : Calls Tryz.prog 27 #[v] w (BoolE false w) := by
  obtain ⟨a, cap, rfl, _⟩ := id h
  have hl : l.length ≤ 9223372036854775807 := by omega
  have H := Lib.hid h
  have HF := Lib.hid hf
  have HG := Lib.hid hg
  have HB := Lib.hid (heap_alloc_new w (.cells #[.slice a l.length cap] 28))
  clear h hf hg
  by_cases h4 : 4 < l.length
  · have h1' : decide ((l.length : Int) < 1) = false := decide_eq_false (by omega)
    have h4' : decide (4 < (l.length : Int)) = true := decide_eq_true (by omega)
    go_enter Tryz.func27, Tryz.ntmps27
    go_wp2
    go_ret
    exact ⟨rfl, (Kept.refl _ _).alloc _⟩
  · have h1' : decide ((l.length : Int) < 1) = false := decide_eq_false (by omega)
    have h4' : decide (4 < (l.length : Int)) = false := decide_eq_false (by omega)
    have hL4 : l.length ≤ 4 := by omega
    have HK0 := Lib.hid ((Kept.refl NoB w).alloc (.cells #[.slice a l.length cap] 28))
    have hsz : w.heap.size < (w.alloc (.cells #[.slice a l.length cap] 28)).heap.size := by simp
    clear h4
    go_enter Tryz.func27, Tryz.ntmps27
    go_wp2_with fail
    go_loopw [3, 4, 5, 16] (fun _ _ _ i wr => ∃ k : Nat, i = .int .i64 k ∧ k ≤ K ∧ Kept NoB w wr ∧ wr.heap[w.heap.size]? = some (.cells #[.slice a l.length cap] 28 (0, 0))) (fun _ _ _ i _ => K - (intOf i).toNat)
    case atStart => exact ⟨0, rfl, Nat.zero_le _, HK0.out, HB.out⟩
    case round =>
      obtain ⟨k, rfl, hk, hkk, hbb⟩ := hrel
      have HK := Lib.hid hkk
      have HBB := Lib.hid hbb
      clear hkk hbb
      have hk1 : (k : Int) < (l.length : Int) := by omega
      by_cases hlt : k < K
      · have hcs := (H.out.kept HK.out (fun _ _ _ h => h))
        obtain ⟨b, o, rfl, _, _, u, e0, e1, e2, e3, e4, hns, q0, q1⟩ := hcs.at_ (show k < l.length by omega)
        have hep : 0 ≤ (nthC l k).ep ∧ (nthC l k).ep ≤ topE ∧ (nthC l k).ns.length ≤ 1000 := ⟨q0, q1, HF.out k hlt⟩
        clear q0 q1
        obtain ⟨ua, uc, rfl, _⟩ := id hns
        have hcv := cf_eta _ _ _ _ hns hep
        have HCS := Lib.hid (hcs.part k (by omega) (fun j hj => HF.out j (by omega)))
        obtain ⟨y, hy⟩ : ∃ y, y = nthC l k := ⟨_, rfl⟩
        rw [← hy] at e0 e1 e2 e3 e4 hcv
        have HCV := Lib.hid hcv
        obtain ⟨cy, hcy⟩ : ∃ z, z = y.ch := ⟨_, rfl⟩
        rw [← hcy] at e0 hcv HCV
        have HMM := Lib.hid (fun w' (hk : Kept NoB wr w') => members_any _ y F w' (HCV.out.kept hk (fun _ _ _ h => h)))
        have HRR := Lib.hid (fun w' (hk : Kept NoB wr w') => Right_any _ y F w' (HCV.out.kept hk (fun _ _ _ h => h)))
        have HR0 : Hid (Rgt y ↔ rgtB y = true) := Lib.hid (by unfold rgtB; simp)
        obtain ⟨r, hr⟩ : ∃ r, r = rgtB y := ⟨_, rfl⟩
        rw [← hr] at HRR HR0
        have hc := heap_alloc_new (wr.alloc (.cells #[.int .i64 (k : Int)] 3)) (.cells #[.int .i64 cy, .int .u64 y.ep, .slice ua y.ns.length uc, .bool y.fr, .int .i64 y.jn] 44)
        have hz : (wr.alloc (.cells #[.int .i64 (k : Int)] 3)).heap.size = wr.heap.size + 1 := by simp
        rw [hz] at hc
        have HC := Lib.hid hc
        have HI := Lib.hid (balloc (heap_alloc_new wr (.cells #[.int .i64 (k : Int)] 3)) (.cells #[.int .i64 cy, .int .u64 y.ep, .slice ua y.ns.length uc, .bool y.fr, .int .i64 y.jn] 44))
        have HB2 := Lib.hid (balloc (balloc HBB.out (.cells #[.int .i64 (k : Int)] 3)) (.cells #[.int .i64 cy, .int .u64 y.ep, .slice ua y.ns.length uc, .bool y.fr, .int .i64 y.jn] 44))
        have HK2 := Lib.hid (((Kept.refl NoB wr).alloc (.cells #[.int .i64 (k : Int)] 3)).alloc (.cells #[.int .i64 cy, .int .u64 y.ep, .slice ua y.ns.length uc, .bool y.fr, .int .i64 y.jn] 44))
        clear hy hns hep hcv hcs hcy hc hz hr
        cases r with
        | false =>
          go_wp2_with fail
          refine (HRR.out _ HK2.out).mono ?_
          rintro e w1 ⟨rfl, hk1⟩
          have HKF := Lib.hid ((HK.out.trans HK2.out (fun _ _ h => h)).trans hk1 (fun _ _ h => h))
          clear hk1
          go_wp2
          go_ret
          exact ⟨rfl, HKF.out⟩
        | true =>
          by_cases hck : cy = (k : Int)
          · have HP := Lib.hid hck
            have hckb : ((cy : Int) != (k : Int)) = false := by simpa using hck
            have HT : Hid (∀ w', Kept NoB wr w' → TellsN 46 #[.pointer (some ⟨w.heap.size, 0, none⟩), .pointer (some ⟨wr.heap.size, 0, none⟩)] y.mem (fun x => usedB (l.take k) x) w' ∨ w'.cell? ⟨wr.heap.size, 0, none⟩ ≠ some (.int .i64 (k : Int))) := Lib.hid (fun w' hk' => by
              by_cases hce : w'.cell? ⟨wr.heap.size, 0, none⟩ = some (.int .i64 (k : Int))
              · refine .inl ⟨ent_all1, fun x w2 _ hk2 => All1_great _ l x k w.heap.size wr.heap.size F w2 (H.out.kept ((HK.out.trans hk' (fun _ _ h => h)).trans hk2 (fun _ _ h => h)) (fun _ _ _ h => h)) (by omega) (fun j hj => HF.out j (by omega)) (cell_of_row _ _ 0 _ _ _ ((hk'.trans hk2 (fun _ _ h => h)).heap (fun h => h) HBB.out)) (hk2.cell (p := ⟨wr.heap.size, 0, none⟩) (fun h => h) hce)⟩
              · exact .inr hce)
            obtain ⟨d2, hd2⟩ : ∃ d2, d2 = y.mem.any (fun x => usedB (l.take k) x) := ⟨_, rfl⟩
            have HD2 := Lib.hid hd2
            have HCN := Lib.hid (fun v F w' (h : NSl w' F v y.mem) hp => hd2 ▸ ContainsN_any v y.mem 46 #[.pointer (some ⟨w.heap.size, 0, none⟩), .pointer (some ⟨wr.heap.size, 0, none⟩)] (fun x => usedB (l.take k) x) F w' h hp)
            clear hd2 hck
            go_wp2_with fail
            refine (HRR.out _ HK2.out).mono ?_
            rintro e w1 ⟨rfl, hk1⟩
            have HK3 := Lib.hid (HK2.out.trans hk1 (fun _ _ h => h))
            obtain ⟨c0, c1, c2, c3, c4⟩ := cells5 (hk1.heap (fun h => h) HC.out)
            have i0 := cell_of_row _ _ 0 _ _ _ (hk1.heap (fun h => h) HI.out)
            have HI3 := Lib.hid i0
            clear hk1
            go_wp2_with fail
            refine (HMM.out _ HK3.out).mono ?_
            rintro e w2 ⟨v', rfl, hn, hk2⟩
            have HN2 := Lib.hid hn
            have HK4 := Lib.hid (HK3.out.trans hk2 (fun _ _ h => h))
            have HI4 := Lib.hid (hk2.cell (p := ⟨wr.heap.size, 0, none⟩) (fun h => h) HI3.out)
            clear hn hk2 c0 c1 c2 c3 c4 i0
            go_wp2_with fail
            refine (HCN.out _ _ _ HN2.out ((HT.out _ HK4.out).resolve_right (fun h => h HI4.out))).mono ?_
            rintro e w3 ⟨rfl, hk3⟩
            have HK5 := Lib.hid (HK4.out.trans hk3 (fun _ _ h => h))
            have HKF := Lib.hid (HK.out.trans HK5.out (fun _ _ h => h))
            have HB5 := Lib.hid (HK5.out.heap (fun h => h) HBB.out)
            clear hk3
            cases d2 with
            | true =>
              go_wp2
              go_ret
              exact ⟨rfl, HKF.out⟩
            | false =>
              go_wp2
              exact ⟨⟨k + 1, by go_num, by omega, HKF.out, HB5.out⟩, by simp [intOf]; omega⟩
          · have hckb : ((cy : Int) != (k : Int)) = true := by simpa using hck
            clear hck
            go_wp2_with fail
            refine (HRR.out _ HK2.out).mono ?_
            rintro e w1 ⟨rfl, hk1⟩
            have HKF := Lib.hid ((HK.out.trans HK2.out (fun _ _ h => h)).trans hk1 (fun _ _ h => h))
            obtain ⟨c0, c1, c2, c3, c4⟩ := cells5 (hk1.heap (fun h => h) HC.out)
            have i0 := cell_of_row _ _ 0 _ _ _ (hk1.heap (fun h => h) HI.out)
            clear hk1
            go_wp2
            go_ret
            exact ⟨rfl, HKF.out⟩
      · obtain rfl : k = K := by omega
        have hcs := (H.out.kept HK.out (fun _ _ _ h => h))
        obtain ⟨b, o, rfl, _, _, u, e0, e1, e2, e3, e4, hns, q0, q1⟩ := hcs.at_ hK
        obtain ⟨ua, uc, rfl, _⟩ := id hns
        have HCV : Hid (CfR wr F (.agg #[.int .i64 (nthC l k).ch, .int .u64 (nthC l k).ep, .slice ua (nthC l k).ns.length uc, .bool (nthC l k).fr, .int .i64 (nthC l k).jn]) (nthC l k)) := Lib.hid ⟨_, rfl, hns, q0, q1⟩
        have HRR := Lib.hid (fun w' (hk : Kept NoB wr w') => Right_great _ (nthC l k) F w' (by
          obtain ⟨u, h1, h2, h3⟩ := HCV.out
          exact ⟨u, h1, h2.kept hk (fun _ _ _ h => h), h3⟩) HG.out)
        obtain ⟨y, hy⟩ : ∃ y, y = nthC l k := ⟨_, rfl⟩
        rw [← hy] at e0 e1 e2 e3 e4 HRR
        clear hy hns hcs HCV q0 q1
        obtain ⟨y0, y1, y2, y3, y4⟩ := y
        simp only at e0 e1 e2 e3 e4 HRR
        have HK2 := Lib.hid (((Kept.refl NoB wr).alloc (.cells #[.int .i64 (k : Int)] 3)).alloc (.cells #[.int .i64 y0, .int .u64 y1, .slice ua y2.length uc, .bool y3, .int .i64 y4] 44))
        go_wp2_with fail
        refine (HRR.out _ HK2.out).mono ?_
        rintro e w1 ⟨rfl, hk1⟩
        have HKF := Lib.hid ((HK.out.trans HK2.out (fun _ _ h => h)).trans hk1 (fun _ _ h => h))
        clear hk1
        go_wp2
        go_ret
        exact ⟨rfl, HKF.out⟩
end Go.Proofs.YtclfecninhipnaaGreatDoor
