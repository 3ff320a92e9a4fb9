/-
  The chapter's All; who is settled; copies.
-/
import Derived.Test.YtlnfbfdmicmafaaDoorCnfM
namespace Go.Proofs.YtlnfbfdmicmafaaDoor
open Go.RowKit
set_option linter.unusedVariables false

theorem memL_small {l : List Cf} (h : ∀ i, i < l.length → Rgt (nthC l i)) (k : Nat) (hk : k ≤ l.length) : (memL (l.take k)).length ≤ 6 * k := by
  induction k with
  | zero => simp [memL]
  | succ k ih =>
    rw [memL_take (by omega), List.length_append]
    have h1 := ih (by omega)
    have h2 := (h k (by omega)).2.2.2.2.1
    have h3 : (nthC l k).mem.length ≤ (nthC l k).ns.length + 1 := by
      unfold Cf.mem
      split
      · omega
      · simp
    omega
theorem all_len4 {l : List Cf} (h : allB l = true) : l.length ≤ 4 := (of_decide_eq_true h : AllC l).2.1
set_option maxRecDepth 100000 in
set_option maxHeartbeats 3000000 in
theorem RAll_any (v : Value) (l : List Cf) (F : Nat → Prop) (w : World) (h : CfsAt w F v l) (hlen : l.length ≤ 1000) : Calls Tryd.prog 12 #[v] w (BoolE (allB l) w) := by
  obtain ⟨a, cap, rfl, _⟩ := id h
  have hl : l.length ≤ 9223372036854775807 := by omega
  obtain ⟨d, hd⟩ : ∃ d, d = allB l := ⟨_, rfl⟩
  rw [← hd]
  have HD := Lib.hid hd
  have H := Lib.hid h
  clear h hd
  go_enter Tryd.func12, Tryd.ntmps12
  go_wp2_with fail
  go_loopw [3, 4] (fun q i wr => ∃ k : Nat, i = .int .i64 k ∧ k ≤ l.length ∧ (∀ j, j < k → Rgt (nthC l j) ∧ (nthC l j).ch = j) ∧ Kept NoB w wr ∧ IOwn w.heap.size wr q (memL (l.take k)) ∧ (memL (l.take k)).length ≤ 6 * k) (fun _ i _ => l.length - (intOf i).toNat)
  case atStart => exact ⟨0, rfl, Nat.zero_le _, fun j h => absurd h (by omega), Kept.refl _ _, IOwn.nil _ _, by simp [memL]⟩
  case round =>
    obtain ⟨k, rfl, hk, hno, hkk, hown, hsm⟩ := hrel
    have HN := Lib.hid hno
    have HK := Lib.hid hkk
    have HO := Lib.hid hown
    obtain ⟨qa, qc, rfl⟩ := hown.form
    have HT := Lib.hid (@memL_take l k)
    obtain ⟨M, hM⟩ : ∃ M, M = memL (l.take k) := ⟨_, rfl⟩
    rw [← hM] at HO HT hsm ⊢
    have HM := Lib.hid hM
    clear hno hkk hown hM
    by_cases hlt : k < l.length
    · have hcs := (H.out.kept HK.out (fun _ _ _ h => h))
      obtain ⟨b, o, rfl, _, _, u, e0, e1, e2, e3, e4, hns, hep⟩ := hcs.at_ hlt
      obtain ⟨ua, uc, rfl, _⟩ := id hns
      have HAB := Lib.hid (all_bad hlt)
      have HO1 : Hid (OneOk l k → Rgt (nthC l k) ∧ (nthC l k).ch = k) := Lib.hid (fun h => ⟨h.1, h.2.1⟩)
      have hcv := cf_eta _ _ _ _ hns hep
      have HTK := Lib.hid (HT.out hlt)
      have HMS : Hid (Rgt (nthC l k) → (nthC l k).mem.length ≤ 6) := Lib.hid (fun hr => by
        have h2 := hr.2.2.2.2.1
        unfold Cf.mem
        split
        · omega
        · simp; omega)
      obtain ⟨y, hy⟩ : ∃ y, y = nthC l k := ⟨_, rfl⟩
      have HY := Lib.hid hy
      rw [← hy] at e0 e1 e2 e3 e4 HO1 hcv HTK HMS
      have hk1 : (k : Int) < (l.length : Int) := by omega
      have HCV := Lib.hid hcv
      obtain ⟨cy, hcy⟩ : ∃ z, z = y.ch := ⟨_, rfl⟩
      rw [← hcy] at e0 HO1 HCV
      have HCY := Lib.hid hcy
      have HRR := Lib.hid (fun w' (hk : Kept NoB wr w') => RRight_any _ y F w' (HCV.out.kept hk (fun _ _ _ h => h)))
      have HSS := Lib.hid (fun w' (hk : Kept NoB wr w') => Stands_any _ y F w' (HCV.out.kept hk (fun _ _ _ h => h)))
      have HR0 : Hid (Rgt y ↔ rgtB y = true) := Lib.hid (by unfold rgtB; simp)
      obtain ⟨r, hr⟩ : ∃ r, r = rgtB y := ⟨_, rfl⟩
      rw [← hr] at HRR HR0
      clear hy hns hep hcv hcs hcy hr
      cases r with
      | false =>
        have HE : Hid (allB l = false) := Lib.hid (HAB.out (fun h => by have := (HR0.out).1 ((HO1.out) h).1; simp at this))
        go_wp2_with fail
        refine (HRR.out _ (Kept.refl _ _)).mono ?_
        rintro e w1 ⟨rfl, hk1⟩
        have HKF := Lib.hid (HK.out.trans hk1 (fun _ _ h => h))
        clear hk1
        go_wp2
        go_ret
        exact ⟨(by rw [HD.out, HE.out] <;> rfl), HKF.out⟩
      | true =>
        by_cases hck : cy = (k : Int)
        · have HP := Lib.hid hck
          have hckb : ((cy : Int) != (k : Int)) = false := by simpa using hck
          have hml := HMS.out ((HR0.out).2 (by simp))
          clear hck
          go_wp2_with fail
          refine (HRR.out _ (Kept.refl _ _)).mono ?_
          rintro e w1 ⟨rfl, hk1⟩
          have HK1 := Lib.hid hk1
          have c0 := hk1.cell (p := ⟨b, o + k * 5, none⟩) (fun h => h) e0
          have c1 := hk1.cell (p := ⟨b, o + k * 5 + 1, none⟩) (fun h => h) e1
          have c2 := hk1.cell (p := ⟨b, o + k * 5 + 2, none⟩) (fun h => h) e2
          have c3 := hk1.cell (p := ⟨b, o + k * 5 + 3, none⟩) (fun h => h) e3
          have c4 := hk1.cell (p := ⟨b, o + k * 5 + 4, none⟩) (fun h => h) e4
          have HO2 := Lib.hid (row_keptI HO.out hk1 (fun _ _ h => h))
          clear hk1 e0 e1 e2 e3 e4
          go_wp2_with fail
          refine (HSS.out _ HK1.out).mono ?_
          rintro e w2 ⟨v', rfl, hown, hk2⟩
          have HK2 := Lib.hid (HK1.out.trans hk2 (fun _ _ h => h))
          have HO3 := Lib.hid (row_keptI HO2.out hk2 (fun _ _ h => h))
          have HNV := Lib.hid hown.nslB
          obtain ⟨va, vc, rfl⟩ := hown.form
          have HSZ : Hid (w.heap.size ≤ w2.heap.size) := Lib.hid (Nat.le_trans HK.out.size HK2.out.size)
          have HOL := Lib.hid (World.ownsRow.lt HO.out)
          clear hk2 hown c0 c1 c2 c3 c4
          go_wp2_with (at_builtin; refine wpList_append_nsl _ rfl (.tmp 26) (.tmp 31) rfl w.heap.size (.slice qa M.length qc) M rfl HO3.out (fun k => w1.heap.size ≤ k) (.slice va y.mem.length vc) y.mem rfl HNV.out (by omega) HSZ.out ?_; intro a1 c1 w3 hown1 hg1 hat1; clear hat1)
          go_roundw
          case rel =>
            refine ⟨k + 1, by go_num, by omega, fun j hj => ?_, (HK.out.trans HK2.out (fun _ _ h => h)).grown hg1 (fun i hi => .inr (HOL.out i hi).1), ?_, ?_⟩
            · rcases Nat.lt_or_ge j k with h | h
              · exact HN.out j h
              · obtain rfl : j = k := by omega
                rw [← HY.out]
                exact ⟨(HR0.out).2 (by simp), by rw [← HCY.out]; exact HP.out⟩
            · rw [HTK.out]; unfold IOwn at *; rw [List.length_append] at hown1 ⊢; exact hown1
            · rw [HTK.out, List.length_append]; omega
          case measure => simp [intOf]; omega
        · have HE : Hid (allB l = false) := Lib.hid (HAB.out (fun h => hck ((HO1.out) h).2))
          have hckb : ((cy : Int) != (k : Int)) = true := by simpa using hck
          clear hck
          go_wp2_with fail
          refine (HRR.out _ (Kept.refl _ _)).mono ?_
          rintro e w1 ⟨rfl, hk1⟩
          have HKF := Lib.hid (HK.out.trans hk1 (fun _ _ h => h))
          have c0 := hk1.cell (p := ⟨b, o + k * 5, none⟩) (fun h => h) e0
          clear hk1 e0
          go_wp2
          go_ret
          exact ⟨(by rw [HD.out, HE.out] <;> rfl), HKF.out⟩
    · obtain rfl : k = l.length := by omega
      have HE := Lib.hid (all_unq HN.out)
      have hMl : M = memL l := by rw [HM.out, List.take_length]
      have HU := Lib.hid (Unlike_any _ M _ wr HO.out.nslB)
      obtain ⟨q, hq⟩ : ∃ q, q = unqB M := ⟨_, rfl⟩
      rw [← hq] at HU
      have HL : Hid (d = (decide (1 ≤ l.length) && decide (l.length ≤ 4) && q)) := Lib.hid (by rw [HD.out, HE.out, hq, hMl])
      clear hq hMl HE hlt
      by_cases h1 : 1 ≤ l.length
      · by_cases h4 : l.length ≤ 4
        · have b1 : decide (1 ≤ (l.length : Int)) = true := decide_eq_true (by omega)
          have b4 : decide ((l.length : Int) ≤ 4) = true := decide_eq_true (by omega)
          have HL' : Hid (d = q) := Lib.hid (by rw [HL.out, decide_eq_true h1, decide_eq_true h4]; rfl)
          go_wp2_with (go_at_call 44; refine HU.out.mono ?_; rintro e w1 ⟨rfl, hk1⟩; have HKF := Lib.hid (HK.out.trans hk1 (fun _ _ h => h)); clear hk1)
          go_ret
          exact ⟨(by rw [HL'.out] <;> rfl), HKF.out⟩
        · have b1 : decide (1 ≤ (l.length : Int)) = true := decide_eq_true (by omega)
          have b4 : decide ((l.length : Int) ≤ 4) = false := decide_eq_false (by omega)
          have HL' : Hid (d = false) := Lib.hid (by rw [HL.out, decide_eq_true h1, decide_eq_false h4]; rfl)
          go_wp2
          go_ret
          exact ⟨(by rw [HL'.out] <;> rfl), HK.out⟩
      · have b1 : decide (1 ≤ (l.length : Int)) = false := decide_eq_false (by omega)
        have HL' : Hid (d = false) := Lib.hid (by rw [HL.out, decide_eq_false h1]; rfl)
        clear h1
        go_wp2
        go_ret
        exact ⟨(by rw [HL'.out] <;> rfl), HK.out⟩
end Go.Proofs.YtlnfbfdmicmafaaDoor
