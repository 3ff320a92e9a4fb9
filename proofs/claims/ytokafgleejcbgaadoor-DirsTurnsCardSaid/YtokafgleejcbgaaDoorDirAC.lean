/-
  Layer 29: Remove of the package.
-/
import Derived.Test.YtokafgleejcbgaaDoorDirAB
namespace Go.Proofs.YtokafgleejcbgaaDoor
open Go.RowKit
set_option linter.unusedVariables false

theorem ESl.take29 {w : World} {F : Nat → Prop} {a : Option Addr} {n cap : Nat} {l : List En} (h : ESl w F (.slice a n cap) l) (k : Nat) (hk : k ≤ l.length) : ESl w F (.slice a k cap) (l.take k) := by
  obtain ⟨a', cap', he, h2, h3, h4, h5⟩ := h
  injection he with he1 he2 he3
  subst he1 he3
  have hl : (l.take k).length = k := by rw [List.length_take]; omega
  refine ⟨a, cap, by rw [hl], by rw [hl]; omega, h3, h4, fun hp => ?_⟩
  rw [hl] at hp
  obtain ⟨b, o, ha, hF, hb, hc⟩ := h5 (by omega)
  refine ⟨b, o, ha, hF, hb, fun j hj => ?_⟩
  rw [hl] at hj
  have : eth (l.take k) j = eth l j := by unfold eth; rw [List.getD_eq_getElem?_getD, List.getD_eq_getElem?_getD, List.getElem?_take, if_pos hj]
  rw [this]
  exact hc j (by omega)
theorem ESl.drop29 {w : World} {F : Nat → Prop} {b o n cap : Nat} {l : List En} (h : ESl w F (.slice (some ⟨b, o, none⟩) n cap) l) (i : Nat) (hi : i ≤ l.length) : ESl w F (.slice (some ⟨b, o + i * 2, none⟩) (l.length - i) (cap - i)) (l.drop i) := by
  obtain ⟨a', cap', he, h2, h3, h4, h5⟩ := h
  injection he with he1 he2 he3
  subst he1 he3
  refine ⟨_, cap - i, by rw [List.length_drop], by rw [List.length_drop]; omega, by omega, (fun h => by cases h), fun hp => ?_⟩
  rw [List.length_drop] at hp
  obtain ⟨b', o', ha, hF, hb, hc⟩ := h5 (by omega)
  cases ha
  refine ⟨b, o + i * 2, rfl, hF, hb, fun j hj => ?_⟩
  rw [List.length_drop] at hj
  have : eth (l.drop i) j = eth l (i + j) := by unfold eth; rw [List.getD_eq_getElem?_getD, List.getD_eq_getElem?_getD, List.getElem?_drop]
  rw [this]
  have := hc (i + j) (by omega)
  rw [show o + i * 2 + j * 2 = o + (i + j) * 2 by omega]
  exact this
theorem ESl.none29 (w : World) (F : Nat → Prop) (a : Addr) : ESl w F (.slice (some a) 0 0) [] := ⟨_, 0, rfl, Nat.le_refl _, Nat.zero_le _, (fun h => by cases h), fun h => by cases h⟩
set_option maxRecDepth 100000 in
set_option maxHeartbeats 1000000 in
theorem vRemove29_any (v : Value) (l : List En) (n : List UInt8) (F : Nat → Prop) (w : World) (h : ESl w F v l) (hF : ∀ k, F k → k < w.heap.size) (hkeys : ∀ j, j < l.length → (eth l j).1.length ≤ 1000000) :
    Calls Tryd.prog 9 #[v, .string ⟨n.toArray⟩] w (GetE29 (remE n l).1 (remE n l).2 w) := by
  have HC := Lib.hid (vCheck29_any v l F w h hkeys)
  have HPL := Lib.hid (fun w (h : ESl w F v l) => place_any v l n F w h)
  obtain ⟨a, cap, rfl, hmax⟩ := h.form
  unfold maxLen at hmax
  have HP := Lib.hid h
  have HF := Lib.hid hF
  have hcap : l.length ≤ cap ∧ cap ≤ 9223372036854775807 := by
    obtain ⟨a', c', he, h1, h2, _⟩ := h
    injection he with _ _ he
    subst he
    unfold maxLen at h2
    exact ⟨h1, by omega⟩
  obtain ⟨sn, hsn⟩ : ∃ s : ByteArray, s = ⟨n.toArray⟩ := ⟨_, rfl⟩
  rw [← hsn] at HPL ⊢
  clear h hF hkeys hsn
  by_cases hz : chkE l ≠ 0
  · have hr : remE n l = (chkE l, []) := by unfold remE; rw [if_pos hz]
    rw [hr]
    obtain ⟨er, her⟩ : ∃ q, q = chkE l := ⟨_, rfl⟩
    rw [← her] at HC hz ⊢
    have g1 : (er != 0) = true := bne_iff_ne.2 hz
    clear hr her hz
    go_enter Tryd.func9, Tryd.ntmps9
    go_wp2_with (go_at_call 18; refine HC.out.mono ?_; rintro e w1 ⟨rfl, hk⟩; have HK1 := Lib.hid hk; have HP1 := Lib.hid (HP.out.no hk); clear hk)
    exact bodyPost_ret (v := .tuple #[.slice none 0 0, .int .i64 er]) (by simp [results, Tryd.results9, go_sem]) rfl (GetE29.nil rfl HK1.out)
  · have hz0 : chkE l = 0 := Decidable.not_not.1 hz
    have hl32 := (chkE_zero hz0).1
    have HLE := Lib.hid hl32
    rw [hz0] at HC
    by_cases ha : l.any (nmIs n) = true
    · have hr : remE n l = (0, l.take (l.findIdx (nmIs n)) ++ l.drop (l.findIdx (nmIs n) + 1)) := by unfold remE; rw [if_neg hz, if_pos ha]
      have hi : idxE (nmIs n) l = (l.findIdx (nmIs n) : Int) := by unfold idxE; rw [if_pos ha]
      have hlt : l.findIdx (nmIs n) < l.length := List.findIdx_lt_length_of_exists (by simpa using List.any_eq_true.1 ha)
      rw [hi] at HPL
      obtain ⟨k, hk⟩ : ∃ k, k = l.findIdx (nmIs n) := ⟨_, rfl⟩
      obtain ⟨K, hK⟩ : ∃ K, K = k + 1 := ⟨_, rfl⟩
      rw [← hk, ← hK] at hr
      rw [← hk] at HPL hlt
      have HRE := Lib.hid hr
      have hk1 : (k : Int) < (l.length : Int) := by omega
      have hk0 : (0 : Int) ≤ (k : Int) := by omega
      have hkc : (k : Int) ≤ (cap : Int) := by omega
      have d0 : decide ((k : Int) < 0) = false := decide_eq_false (by omega)
      have w1 : IntKind.i64.wrap ((k : Int) + 1) = (K : Int) := by rw [IntWalk.i64_in _ (by omega)]; omega
      have hK0 : (0 : Int) ≤ (K : Int) := by omega
      have hKl : (K : Int) ≤ (l.length : Int) := by omega
      have hKl' : K ≤ l.length := by omega
      have hkl' : k ≤ l.length := by omega
      obtain ⟨bb, oo, rfl, _⟩ := HP.out.at_ hlt
      by_cases hcK : cap = K
      · subst hcK
        have hlK : l.length - cap = 0 := by omega
        have hdr : l.drop cap = [] := List.drop_of_length_le (by omega)
        have HDR := Lib.hid hdr
        have HHK := Lib.hid hK
        clear hz hz0 ha hr hi hk hlt hK hdr
        go_enter Tryd.func9, Tryd.ntmps9
        go_wp2_with (first
          | (go_at_call 18; refine HC.out.mono ?_; rintro e w1 ⟨rfl, hk⟩; have HK1 := Lib.hid hk; have HP1 := Lib.hid (HP.out.no hk); clear hk)
          | (go_at_call 20; refine (HPL.out _ HP1.out).mono ?_; rintro e w2 ⟨rfl, hk⟩; have HK2 := Lib.hid (HK1.out.trans hk (fun _ _ h => h)); have HP2 := Lib.hid (HP1.out.no hk); clear hk))
        have HES1 := Lib.hid (HP2.out.take29 k hkl')
        have HES2 := Lib.hid (show ESl w2 F (.slice (some ⟨bb, oo, none⟩) 0 0) (l.drop cap) from by rw [HDR.out]; exact ESl.none29 _ _ _)
        have hka := (Kept.refl NoB w2).drew.alloc (.cells #[.slice (some ⟨bb, oo, none⟩) k cap, (.slice (some ⟨bb, oo, none⟩) 0 0)] 27)
        have HPT : Hid (PtsAt (w2.drew.alloc (.cells #[.slice (some ⟨bb, oo, none⟩) k cap, (.slice (some ⟨bb, oo, none⟩) 0 0)] 27)) F w2.heap.size [(.slice (some ⟨bb, oo, none⟩) k cap, l.take k), ((.slice (some ⟨bb, oo, none⟩) 0 0), l.drop cap)]) := Lib.hid ⟨heap_alloc_new w2.drew _, fun p hp => by
          rcases List.mem_cons.1 hp with rfl | hp
          · exact HES1.out.no hka
          · rw [List.mem_singleton] at hp; subst hp; exact HES2.out.no hka⟩
        have HCC := Lib.hid (Concat29_any w2.heap.size 2 2 _ F _ HPT.out (fun i hi => by have := HF.out i hi; have := HK2.out.size; have := hka.size; omega) rfl (by decide) (by decide) (by decide) (by unfold sumE; simp; have := HLE.out; omega))
        have HKA := Lib.hid (HK2.out.trans hka (fun _ _ h => h))
        clear hka
        go_region_held3 (fun _ => True) (exact trivial)
          (first
            | (go_at_call 23; refine HCC.out.mono ?_; rintro e w5 ⟨v5, rfl, hv5, hk5⟩; have HV5 := Lib.hid (hv5.mono (G := fun i => w.heap.size ≤ i) (fun i _ h => Nat.le_trans HKA.out.size h)); have HK5 := Lib.hid (HKA.out.trans hk5 (fun _ _ h => h)); (obtain ⟨a5, c5, rfl, _⟩ := hv5); clear hk5)
            | fail)
        all_goals
          go_wp2_with fail
          exact bodyPost_ret (v := .tuple #[.slice a5 (catE [(.slice (some ⟨bb, oo, none⟩) k cap, l.take k), ((.slice (some ⟨bb, oo, none⟩) 0 0), l.drop cap)]).length c5, .int .i64 0]) (by simp [results, Tryd.results9, go_sem]) rfl (by rw [HRE.out]; exact ⟨_, rfl, by have := HV5.out; unfold catE at this ⊢; simpa using this, HK5.out⟩)
      · have HHK := Lib.hid hK
        clear hz hz0 ha hr hi hk hlt hK
        go_enter Tryd.func9, Tryd.ntmps9
        go_wp2_with (first
          | (go_at_call 18; refine HC.out.mono ?_; rintro e w1 ⟨rfl, hk⟩; have HK1 := Lib.hid hk; have HP1 := Lib.hid (HP.out.no hk); clear hk)
          | (go_at_call 20; refine (HPL.out _ HP1.out).mono ?_; rintro e w2 ⟨rfl, hk⟩; have HK2 := Lib.hid (HK1.out.trans hk (fun _ _ h => h)); have HP2 := Lib.hid (HP1.out.no hk); clear hk))
        have HES1 := Lib.hid (HP2.out.take29 k hkl')
        have HES2 := Lib.hid (show ESl w2 F (.slice (some ⟨bb, oo + K * 2, none⟩) (l.length - K) (cap - K)) (l.drop K) from HP2.out.drop29 K hKl')
        have hka := (Kept.refl NoB w2).drew.alloc (.cells #[.slice (some ⟨bb, oo, none⟩) k cap, (.slice (some ⟨bb, oo + K * 2, none⟩) (l.length - K) (cap - K))] 27)
        have HPT : Hid (PtsAt (w2.drew.alloc (.cells #[.slice (some ⟨bb, oo, none⟩) k cap, (.slice (some ⟨bb, oo + K * 2, none⟩) (l.length - K) (cap - K))] 27)) F w2.heap.size [(.slice (some ⟨bb, oo, none⟩) k cap, l.take k), ((.slice (some ⟨bb, oo + K * 2, none⟩) (l.length - K) (cap - K)), l.drop K)]) := Lib.hid ⟨heap_alloc_new w2.drew _, fun p hp => by
          rcases List.mem_cons.1 hp with rfl | hp
          · exact HES1.out.no hka
          · rw [List.mem_singleton] at hp; subst hp; exact HES2.out.no hka⟩
        have HCC := Lib.hid (Concat29_any w2.heap.size 2 2 _ F _ HPT.out (fun i hi => by have := HF.out i hi; have := HK2.out.size; have := hka.size; omega) rfl (by decide) (by decide) (by decide) (by unfold sumE; simp; have := HLE.out; omega))
        have HKA := Lib.hid (HK2.out.trans hka (fun _ _ h => h))
        clear hka
        go_region_held3 (fun _ => True) (exact trivial)
          (first
            | (go_at_call 23; refine HCC.out.mono ?_; rintro e w5 ⟨v5, rfl, hv5, hk5⟩; have HV5 := Lib.hid (hv5.mono (G := fun i => w.heap.size ≤ i) (fun i _ h => Nat.le_trans HKA.out.size h)); have HK5 := Lib.hid (HKA.out.trans hk5 (fun _ _ h => h)); (obtain ⟨a5, c5, rfl, _⟩ := hv5); clear hk5)
            | fail)
        all_goals
          go_wp2_with fail
          exact bodyPost_ret (v := .tuple #[.slice a5 (catE [(.slice (some ⟨bb, oo, none⟩) k cap, l.take k), ((.slice (some ⟨bb, oo + K * 2, none⟩) (l.length - K) (cap - K)), l.drop K)]).length c5, .int .i64 0]) (by simp [results, Tryd.results9, go_sem]) rfl (by rw [HRE.out]; exact ⟨_, rfl, by have := HV5.out; unfold catE at this ⊢; simpa using this, HK5.out⟩)
    · have hr : remE n l = (13, []) := by unfold remE; rw [if_neg hz, if_neg ha]
      have hi : idxE (nmIs n) l = -1 := by unfold idxE; rw [if_neg ha]
      rw [hi] at HPL
      rw [hr]
      clear hz hz0 ha hr hi
      go_enter Tryd.func9, Tryd.ntmps9
      go_wp2_with (first
        | (go_at_call 18; refine HC.out.mono ?_; rintro e w1 ⟨rfl, hk⟩; have HK1 := Lib.hid hk; have HP1 := Lib.hid (HP.out.no hk); clear hk)
        | (go_at_call 20; refine (HPL.out _ HP1.out).mono ?_; rintro e w2 ⟨rfl, hk⟩; have HK2 := Lib.hid (HK1.out.trans hk (fun _ _ h => h)); have HP2 := Lib.hid (HP1.out.no hk); clear hk))
      exact bodyPost_ret (v := .tuple #[.slice none 0 0, .int .i64 13]) (by simp [results, Tryd.results9, go_sem]) rfl (GetE29.nil rfl HK2.out)
end Go.Proofs.YtokafgleejcbgaaDoor
