/-
  Layer 29: which entries may be: checkOne, Check of the package.
-/
import Derived.Test.YtokafgleejcbgaaDoorDirI
import Derived.Laws.Cover1
namespace Go.Proofs.YtokafgleejcbgaaDoor
open Go.RowKit
set_option linter.unusedVariables false

theorem bl29_irr : ∀ x : List UInt8, Op.bytesLess x x = false
  | [] => rfl
  | a :: x => by simp [Op.bytesLess, bl29_irr x]
theorem bl29_tri : ∀ x y : List UInt8, (!Op.bytesLess x y) = (Op.bytesLess y x || y == x)
  | [], [] => rfl
  | [], _ :: _ => rfl
  | _ :: _, [] => rfl
  | a :: x, b :: y => by
    simp only [Op.bytesLess]
    have ih := bl29_tri x y
    by_cases h1 : a < b
    · have h2 : ¬ b < a := by intro h; exact absurd (UInt8.lt_trans h1 h) (UInt8.lt_irrefl _)
      have h3 : ¬ b = a := by intro h; subst h; exact absurd h1 (UInt8.lt_irrefl _)
      simp [h1, h2, h3]
    · by_cases h2 : b < a
      · have h3 : ¬ a = b := by intro h; subst h; exact absurd h2 (UInt8.lt_irrefl _)
        simp [h1, h2, h3]
      · have h3 : a = b := by
          have q1 : ¬ a.toNat < b.toNat := fun h => h1 (UInt8.lt_iff_toNat_lt.2 h)
          have q2 : ¬ b.toNat < a.toNat := fun h => h2 (UInt8.lt_iff_toNat_lt.2 h)
          exact UInt8.toNat_inj.1 (by omega)
        subst h3
        simp [h1, ih]
/-- Is a text not behind another? -/
def leq29 (x y : List UInt8) : Bool := Op.bytesLess x y || x == y
def oneE (p : En) : Int := if ¬ nmOk p.1 then 18 else if p.2 < 1 ∨ 65535 < p.2 then 4 else 0
def stepE (prev : List UInt8) (p : En) : Int := if oneE p ≠ 0 then oneE p else if leq29 p.1 prev = true then 4 else 0
def goE : List UInt8 → List En → Int
  | _, [] => 0
  | prev, p :: l => if stepE prev p = 0 then goE p.1 l else stepE prev p
/-- What is wrong with entries. -/
def chkE (l : List En) : Int := if 32 < l.length then 17 else goE [] l
/-- The name ahead. -/
def prv29 (l : List En) (k : Nat) : List UInt8 := if k = 0 then [] else (eth l (k - 1)).1
theorem prv29_succ (l : List En) (k : Nat) : prv29 l (k + 1) = (eth l k).1 := by unfold prv29; rw [if_neg (by omega), Nat.add_sub_cancel]
theorem oneE_cases (p : En) : oneE p = 0 ∨ oneE p = 4 ∨ oneE p = 18 := by unfold oneE; split; exact .inr (.inr rfl); split; exact .inr (.inl rfl); exact .inl rfl
theorem ret_i29 {a b : Int} (h : a = b) : Ending.returned (.int .i64 a) = .returned (.int .i64 b) := by rw [h]
theorem vName_l (x : List UInt8) (w : World) (h : x.length ≤ 1000000) : Calls Tryd.prog 29 #[.string ⟨x.toArray⟩] w fun e w' => e = .returned (.bool (decide (nmOk x))) ∧ Kept NoB w w' := vName_any ⟨x.toArray⟩ w (by show x.toArray.size ≤ 1000000; simpa using h)
theorem rName_l (x : List UInt8) (w : World) (h : x.length ≤ 1000000) : Calls Tryd.prog 25 #[.string ⟨x.toArray⟩] w fun e w' => e = .returned (.bool (decide (nmOk x))) ∧ Kept NoB w w' := rName29_any ⟨x.toArray⟩ w (by show x.toArray.size ≤ 1000000; simpa using h)
theorem cell2_29 {w : World} {b : Nat} {x y : Value} {t : TypeId} (h : w.heap[b]? = some (.cells #[x, y] t (0, 0))) : w.cell? ⟨b, 0, none⟩ = some x ∧ w.cell? ⟨b, 1, none⟩ = some y :=
  ⟨cell_of_row _ _ 0 _ _ _ h, cell_of_row _ _ 1 _ _ _ h⟩
set_option maxRecDepth 100000 in
set_option maxHeartbeats 2000000 in
theorem checkOne_any (x : List UInt8) (n : Int) (w : World) (hx : x.length ≤ 1000000) :
    Calls Tryd.prog 19 #[.agg #[.string ⟨x.toArray⟩, .int .i64 n]] w fun e w' => e = .returned (.int .i64 (oneE (x, n))) ∧ Kept NoB w w' := by
  obtain ⟨R, hR⟩ : ∃ R, R = oneE (x, n) := ⟨_, rfl⟩
  rw [← hR]
  have HR := Lib.hid hR
  clear hR
  have HK := Lib.hid ((Kept.refl NoB w).alloc (.cells #[.string ⟨x.toArray⟩, .int .i64 n] 32))
  have HB := Lib.hid (heap_alloc_new w (.cells #[.string ⟨x.toArray⟩, .int .i64 n] 32))
  obtain ⟨c0, c1⟩ := cell2_29 HB.out
  have HN := Lib.hid (fun w => vName_l x w hx)
  obtain ⟨sx, hsx⟩ : ∃ sx : ByteArray, sx = ⟨x.toArray⟩ := ⟨_, rfl⟩
  rw [← hsx] at HN HK HB c0 c1 ⊢
  clear hsx
  by_cases h : nmOk x
  · rw [decide_eq_true h] at HN
    by_cases h1 : n < 1
    · have d1 : decide (n < 1) = true := decide_eq_true h1
      have Hh := Lib.hid h
      have Hh1 := Lib.hid h1
      clear h
      go_enter Tryd.func19, Tryd.ntmps19
      go_wp2_with (go_at_call 29; refine (HN.out _).mono ?_; rintro e w2 ⟨rfl, hk2⟩; have HK2 := Lib.hid (HK.out.trans hk2 (fun _ _ h => h)); have HB2 := Lib.hid (hk2.heap (fun h => h) HB.out); clear hk2; clear c0 c1; obtain ⟨c0, c1⟩ := cell2_29 HB2.out)
      go_ret
      exact ⟨ret_i29 (by rw [HR.out]; unfold oneE; rw [if_neg (fun q => q Hh.out), if_pos (.inl Hh1.out)]), HK2.out⟩
    · have d1 : decide (n < 1) = false := decide_eq_false h1
      have g1 : (1 : Int) ≤ n := by omega
      by_cases h2 : 65535 < n
      · have d2 : decide ((65535 : Int) < n) = true := decide_eq_true h2
        have Hh := Lib.hid h
        have Hh1 := Lib.hid h1
        have Hh2 := Lib.hid h2
        clear h h1
        go_enter Tryd.func19, Tryd.ntmps19
        go_wp2_with (go_at_call 29; refine (HN.out _).mono ?_; rintro e w2 ⟨rfl, hk2⟩; have HK2 := Lib.hid (HK.out.trans hk2 (fun _ _ h => h)); have HB2 := Lib.hid (hk2.heap (fun h => h) HB.out); clear hk2; clear c0 c1; obtain ⟨c0, c1⟩ := cell2_29 HB2.out)
        go_ret
        exact ⟨ret_i29 (by rw [HR.out]; unfold oneE; rw [if_neg (fun q => q Hh.out), if_pos (.inr Hh2.out)]), HK2.out⟩
      · have d2 : decide ((65535 : Int) < n) = false := decide_eq_false h2
        have g2 : n ≤ 65535 := by omega
        have Hh := Lib.hid h
        have Hh1 := Lib.hid h1
        have Hh2 := Lib.hid h2
        clear h h1 h2
        go_enter Tryd.func19, Tryd.ntmps19
        go_wp2_with (go_at_call 29; refine (HN.out _).mono ?_; rintro e w2 ⟨rfl, hk2⟩; have HK2 := Lib.hid (HK.out.trans hk2 (fun _ _ h => h)); have HB2 := Lib.hid (hk2.heap (fun h => h) HB.out); clear hk2; clear c0 c1; obtain ⟨c0, c1⟩ := cell2_29 HB2.out)
        go_ret
        exact ⟨ret_i29 (by rw [HR.out]; unfold oneE; rw [if_neg (fun q => q Hh.out), if_neg (fun q => by have a1 := Hh1.out; have a2 := Hh2.out; simp only at q; omega)]), HK2.out⟩
  · rw [decide_eq_false h] at HN
    have Hh := Lib.hid h
    clear h
    go_enter Tryd.func19, Tryd.ntmps19
    go_wp2_with (go_at_call 29; refine (HN.out _).mono ?_; rintro e w2 ⟨rfl, hk2⟩; have HK2 := Lib.hid (HK.out.trans hk2 (fun _ _ h => h)); have HB2 := Lib.hid (hk2.heap (fun h => h) HB.out); clear hk2; clear c0 c1; obtain ⟨c0, c1⟩ := cell2_29 HB2.out)
    go_ret
    exact ⟨ret_i29 (by rw [HR.out]; unfold oneE; rw [if_pos Hh.out]), HK2.out⟩
set_option maxRecDepth 100000 in
set_option maxHeartbeats 4000000 in
theorem vCheck29_any (v : Value) (l : List En) (F : Nat → Prop) (w : World) (h : ESl w F v l) (hkeys : ∀ j, j < l.length → (eth l j).1.length ≤ 1000000) :
    Calls Tryd.prog 18 #[v] w fun e w' => e = .returned (.int .i64 (chkE l)) ∧ Kept NoB w w' := by
  obtain ⟨a, c, rfl, hmax⟩ := h.form
  unfold maxLen at hmax
  have HP := Lib.hid h
  have HKEY := Lib.hid hkeys
  obtain ⟨R, hR⟩ : ∃ R, R = chkE l := ⟨_, rfl⟩
  rw [← hR]
  unfold chkE at hR
  have HE := Lib.hid hR
  clear h hkeys hR
  by_cases h20 : 32 < l.length
  · have g1 : (32 : Int) < (l.length : Int) := by omega
    have HRR : Hid (R = 17) := Lib.hid (by rw [HE.out, if_pos h20])
    clear h20
    go_enter Tryd.func18, Tryd.ntmps18
    go_wp2
    go_ret
    exact ⟨ret_i29 HRR.out.symm, Kept.refl _ _⟩
  · have g1 : (l.length : Int) ≤ 32 := by omega
    have g1' : decide ((32 : Int) < (l.length : Int)) = false := decide_eq_false (by omega)
    have HRR : Hid (R = goE [] l) := Lib.hid (by rw [HE.out, if_neg h20])
    have hl20 : l.length ≤ 32 := by omega
    clear h20
    go_enter Tryd.func18, Tryd.ntmps18
    go_wp2
    go_loopw [3, 12] (fun p i wr => ∃ k : Nat, k ≤ l.length ∧ i = .int .i64 k ∧ p = .string ⟨(prv29 l k).toArray⟩ ∧ R = goE (prv29 l k) (l.drop k) ∧ Kept NoB w wr) (fun _ i _ => l.length - (RowKit.intOf i).toNat)
    case atStart => exact ⟨0, Nat.zero_le _, rfl, rfl, HRR.out, Kept.refl _ _⟩
    case round =>
      obtain ⟨k, hk, rfl, rfl, hR, hkk⟩ := hrel
      have HKR := Lib.hid hkk
      by_cases hlt : k < l.length
      · have hk1 : (k : Int) < (l.length : Int) := by omega
        have hk0 : (0 : Int) ≤ (k : Int) := by omega
        rw [edrop_cons hlt] at hR
        obtain ⟨bb, oo, ha, _, _, e0, e1⟩ := (HP.out.no hkk).at_ hlt
        subst ha
        have hky := HKEY.out k hlt
        have HPS := Lib.hid (prv29_succ l k)
        obtain ⟨pr, hpr2⟩ : ∃ pr, pr = prv29 l k := ⟨_, rfl⟩
        rw [← hpr2] at hR ⊢
        obtain ⟨x, hx⟩ : ∃ x, x = eth l k := ⟨_, rfl⟩
        rw [← hx] at hR e0 e1 hky HPS
        obtain ⟨nm, nd⟩ := x
        simp only at e0 e1 hky HPS
        have HGO : Hid (R = if stepE pr (nm, nd) = 0 then goE nm (l.drop (k + 1)) else stepE pr (nm, nd)) := Lib.hid hR
        have hST : stepE pr (nm, nd) = if oneE (nm, nd) ≠ 0 then oneE (nm, nd) else if leq29 nm pr = true then 4 else 0 := rfl
        have HO := Lib.hid (fun w => checkOne_any nm nd w hky)
        have HLQ : Hid (leq29 nm pr = (Op.bytesLess (⟨nm.toArray⟩ : ByteArray).toList (⟨pr.toArray⟩ : ByteArray).toList || (⟨nm.toArray⟩ : ByteArray).toList == (⟨pr.toArray⟩ : ByteArray).toList)) := Lib.hid (by rw [toL29, toL29]; rfl)
        have hOC := oneE_cases (nm, nd)
        obtain ⟨ox, hox⟩ : ∃ ox, ox = oneE (nm, nd) := ⟨_, rfl⟩
        rw [← hox] at hST HO hOC
        obtain ⟨sx, hsx⟩ : ∃ sx : ByteArray, sx = ⟨nm.toArray⟩ := ⟨_, rfl⟩
        obtain ⟨sp, hsp⟩ : ∃ sp : ByteArray, sp = ⟨pr.toArray⟩ := ⟨_, rfl⟩
        rw [← hsx] at HO HLQ e0
        rw [← hsp] at HLQ ⊢
        have HSX := Lib.hid hsx
        have HBX := Lib.hid (heap_alloc_new wr (.cells #[.string sx, .int .i64 nd] 32))
        have HKW := Lib.hid (hkk.alloc (.cells #[.string sx, .int .i64 nd] 32))
        obtain ⟨p0, p1⟩ := cell2_29 HBX.out
        clear hR hx hpr2 hkk hox hsx hsp hky
        by_cases hx0 : ox = 0
        · have g2 : (ox == 0) = true := by simpa using hx0
          rw [if_neg (fun h => h hx0)] at hST
          clear hOC
          by_cases hle : leq29 nm pr = true
          · have HST : Hid (stepE pr (nm, nd) = 4) := Lib.hid (by rw [hST, if_pos hle])
            have g4 := HLQ.out.symm.trans hle
            clear hST hle hx0
            have HST2 : Hid (R = 4) := Lib.hid (by rw [HGO.out, HST.out]; simp)
            go_wp2_with (go_at_call 19; refine (HO.out _).mono ?_; rintro e w3 ⟨rfl, hk3⟩; have HK3 := Lib.hid (HKW.out.trans hk3 (fun _ _ h => h)); clear p0 p1; obtain ⟨p0, p1⟩ := cell2_29 (hk3.heap (fun h => h) HBX.out); clear hk3)
            go_ret
            exact ⟨ret_i29 HST2.out.symm, HK3.out⟩
          · have HST : Hid (R = goE nm (l.drop (k + 1))) := Lib.hid (by rw [HGO.out, hST, if_neg hle, if_pos rfl])
            have g4 := HLQ.out.symm.trans (Bool.eq_false_iff.2 hle)
            clear hST hle hx0
            go_wp2_with (go_at_call 19; refine (HO.out _).mono ?_; rintro e w3 ⟨rfl, hk3⟩; have HK3 := Lib.hid (HKW.out.trans hk3 (fun _ _ h => h)); clear p0 p1; obtain ⟨p0, p1⟩ := cell2_29 (hk3.heap (fun h => h) HBX.out); clear hk3)
            go_roundw
            case rel => exact ⟨k + 1, by omega, by go_num, by rw [HPS.out, HSX.out], by rw [HPS.out]; exact HST.out, HK3.out⟩
            case measure => simp [RowKit.intOf]; omega
        · have g2 : (ox == 0) = false := by simpa using hx0
          have HST : Hid (stepE pr (nm, nd) = ox) := Lib.hid (by rw [hST, if_pos hx0])
          have HX0 := Lib.hid hx0
          clear hST hx0 hOC
          have HST2 : Hid (R = ox) := Lib.hid (by rw [HGO.out, HST.out, if_neg HX0.out])
          go_wp2_with (go_at_call 19; refine (HO.out _).mono ?_; rintro e w3 ⟨rfl, hk3⟩; have HK3 := Lib.hid (HKW.out.trans hk3 (fun _ _ h => h)); clear p0 p1; obtain ⟨p0, p1⟩ := cell2_29 (hk3.heap (fun h => h) HBX.out); clear hk3)
          go_ret
          exact ⟨ret_i29 HST2.out.symm, HK3.out⟩
      · obtain rfl : k = l.length := by omega
        rw [List.drop_length] at hR
        have HRZ : Hid (R = 0) := Lib.hid hR
        clear hR
        go_wp2
        go_ret
        exact ⟨ret_i29 HRZ.out.symm, HKR.out⟩
end Go.Proofs.YtokafgleejcbgaaDoor
