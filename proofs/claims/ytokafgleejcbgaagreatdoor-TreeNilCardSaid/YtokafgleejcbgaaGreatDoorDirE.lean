/-
  Layer 29: the package's Split.
-/
import Derived.Test.YtokafgleejcbgaaGreatDoorDirD
namespace Go.Proofs.YtokafgleejcbgaaGreatDoor
open Go.RowKit
set_option linter.unusedVariables false

theorem SplitN29_any (s : ByteArray) (w : World) (hs : s.size ≤ 1000000) (hv : Lng w) :
    Calls Tryz.prog 57 #[.string s, .string ⟨#[47]⟩, .int .i64 9] w fun e w' => ∃ cap, e = .returned (.slice (some ⟨w.heap.size, 0, none⟩) (pcs29 s).length cap) ∧
      TSl w' (fun k => w.heap.size ≤ k) (.slice (some ⟨w.heap.size, 0, none⟩) (pcs29 s).length cap) (pcs29 s) ∧ Kept NoB w w' := by
  obtain ⟨m, hm⟩ := hv
  have hlen : (pcs29 s).length = (Lib.splitB ⟨#[47]⟩ 0 (min 9 (s.size + 1) - 1) s).length := by unfold pcs29; simp
  refine (Tryz.strings_SplitN s ⟨#[47]⟩ 9 m w (by omega) hm (by decide) (by omega) (by omega)).mono fun e w' ⟨he, hw⟩ => ⟨_, by rw [hlen]; exact he, ?_, ?_⟩
  · have hle := (pcs29_is s).1
    refine ⟨_, _, rfl, by rw [hle]; omega, by unfold maxLen; omega, (fun h => by cases h), fun hp => ⟨w.heap.size, 0, rfl, Nat.le_refl _, by rw [hw]; simp, fun j hj => ?_⟩⟩
    rw [hw, Nat.zero_add, cell_of_row _ _ j _ _ _ (heap_alloc_new w _)]
    have hj' : j < (Lib.splitB ⟨#[47]⟩ 0 (min 9 (s.size + 1) - 1) s).length := by rw [← hlen]; exact hj
    unfold Lib.cellsOf pcs29
    rw [List.getElem?_toArray, List.getElem?_append_left (by simpa using hj')]
    simp [List.getElem?_eq_getElem hj', List.getD_eq_getElem?_getD]
  · rw [hw]
    exact (Kept.refl _ _).alloc _
theorem extract_tail29 (s : ByteArray) : (s.extract 1 s.size).data.toList = s.data.toList.tail := by
  rw [Lib.extract_data, List.take_of_length_le (by rw [List.length_drop, len29]; omega)]
  simp
theorem wgs_mem_len (l : List UInt8) : ∀ (cur x : List UInt8), x ∈ wgs cur l → x.length ≤ cur.length + l.length := by
  induction l with
  | nil => intro cur x hx; rw [wgs, List.mem_singleton] at hx; rw [hx]; simp
  | cons c r ih =>
    intro cur x hx
    rw [wgs] at hx
    split at hx
    · rcases List.mem_cons.1 hx with rfl | h
      · rw [List.length_cons]; omega
      · have := ih [] x h; rw [List.length_cons]; simp at this; omega
    · have := ih (cur ++ [c]) x hx
      rw [List.length_append] at this
      rw [List.length_cons]; simp at this; omega
set_option maxRecDepth 100000 in
theorem vSplit_any (s : ByteArray) (w : World) (hs : s.size ≤ 1000000) (hv : Lng w) : Calls Tryz.prog 49 #[.string s] w (SplE (pathE s.data.toList) (pathNs s.data.toList) w) := by
  have HCP := Lib.hid (CutPrefix29_any s w hs)
  have HV := Lib.hid hv
  clear hv
  by_cases h47 : s.data.toList.head? = some 47
  · rw [if_pos h47, decide_eq_true h47] at HCP
    have hH := Lib.hid h47
    have ht := extract_tail29 s
    have hsz : (s.extract 1 s.size).size = s.data.toList.tail.length := by rw [← len29, ht]
    obtain ⟨r, hr⟩ : ∃ r, r = s.extract 1 s.size := ⟨_, rfl⟩
    rw [← hr] at HCP ht hsz
    have hr6 : r.size ≤ 1000000 := by rw [hsz, List.length_tail, len29]; omega
    obtain ⟨T, hT⟩ : ∃ T, T = s.data.toList.tail := ⟨_, rfl⟩
    rw [← hT] at ht hsz
    have hsT : s.data.toList = 47 :: T := by
      cases hc : s.data.toList with
      | nil => rw [hc] at h47; cases h47
      | cons a b => rw [hc] at h47 hT; injection h47 with h47; rw [h47, hT]; rfl
    by_cases h0 : T = []
    · have hroot : s.data.toList = [47] := by rw [hsT, h0]
      have HR := Lib.hid hroot
      have g0 : r.toList = [] := by rw [toL29, ht, h0]
      have g1 : (r.toList == []) = true := by rw [g0]; rfl
      have g2 : r.toList.isEmpty = true := by rw [g0]; rfl
      clear hr hT hsT hroot h0 h47 ht hsz
      go_enter Tryz.func49, Tryz.ntmps49
      go_wp2_with (go_at_call 56; refine HCP.out.mono ?_; rintro e w2 ⟨rfl, hk2⟩; have HK := Lib.hid hk2; clear hk2)
      exact bodyPost_ret (v := .tuple #[.slice none 0 0, .int .i64 0]) (by simp [results, Tryz.results49, go_sem]) rfl (SplE.root HR.out HK.out)
    · have hnr : s.data.toList ≠ [47] := fun h => h0 (by rw [hsT] at h; injection h)
      have HNR := Lib.hid hnr
      have g0 : ¬ r.toList = [] := by rw [toL29, ht]; exact h0
      have g1 : (r.toList == []) = false := by simpa using g0
      have g2 : r.toList.isEmpty = false := by cases hh : r.toList with
        | nil => exact absurd hh g0
        | cons _ _ => rfl
      have hps := pcs29_is r
      rw [ht] at hps
      have hwl := wgs_len T []
      have hTL : s.data.toList.tail = T := by rw [hsT]; rfl
      have HTL := Lib.hid hTL
      have HSN := Lib.hid (fun w (hv : Lng w) => SplitN29_any r w hr6 hv)
      obtain ⟨P, hP⟩ : ∃ P, P = pcs29 r := ⟨_, rfl⟩
      rw [← hP] at hps HSN
      have hxl : ∀ x ∈ wgs [] T, x.length ≤ 1000000 := fun x hx => Nat.le_trans (wgs_mem_len T [] x hx) (by rw [← hsz]; simp; omega)
      by_cases h8 : P.length ≤ 8
      · have hw8 : (wgs [] T).length ≤ 8 := by omega
        have hPw : P = wgs [] T := hps.2 (by omega)
        have g8 : (P.length : Int) ≤ 8 := by omega
        have HPW := Lib.hid hPw
        have HW8 := Lib.hid hw8
        have HXL := Lib.hid hxl
        have HCF := Lib.hid (fun v w (h : TSl w (fun _ => True) v P) => ContainsS_any v P 58 #[] (fun x => !decide (nmOk x)) _ w h ⟨ent_split, fun x w' hx _ => SplitF_any x w' (HXL.out x (HPW.out ▸ hx))⟩)
        obtain ⟨b, hb⟩ : ∃ b, b = P.any (fun x => !decide (nmOk x)) := ⟨_, rfl⟩
        rw [← hb] at HCF
        have HBB := Lib.hid hb
        clear hr hT hsT hTL h0 h47 ht hsz hps hP hPw hb hxl hwl hw8 hnr g0
        go_enter Tryz.func49, Tryz.ntmps49
        go_wp2_with (first
          | (go_at_call 56; refine HCP.out.mono ?_; rintro e w2 ⟨rfl, hk2⟩; have HK := Lib.hid hk2; clear hk2)
          | (go_at_call 57; refine (HSN.out _ (HV.out.no HK.out)).mono ?_; rintro e w3 ⟨cap, rfl, hv3, hk3⟩; have HT3 := Lib.hid hv3; have HK3 := Lib.hid (HK.out.trans hk3 (fun _ _ h => h)); have HZ := Lib.hid HK.out.size; clear hk3 hv3)
          | (go_at_call 60; refine (HCF.out _ _ HT3.out.any).mono ?_; rintro e w4 ⟨rfl, hk4⟩; have HK4 := Lib.hid (HK3.out.trans hk4 (fun _ _ h => h)); have HT4 := Lib.hid (HT3.out.no hk4); clear hk4; cases b))
        · have HPO : Hid (pathOk s.data.toList) := Lib.hid ⟨hH.out, .inr (by
            rw [HTL.out]
            refine ⟨HW8.out, fun x hx => ?_⟩
            have := HBB.out.symm
            rw [HPW.out, List.any_eq_false] at this
            simpa using this x hx)⟩
          go_wp2_with fail
          exact bodyPost_ret (v := .tuple #[.slice (some ⟨w2.heap.size, 0, none⟩) P.length cap, .int .i64 0]) (by simp [results, Tryz.results49, go_sem]) rfl (SplE.ok HPO.out HNR.out (by rw [HTL.out, ← HPW.out]; exact HT4.out.mono (fun k _ h => Nat.le_trans HZ.out h)) HK4.out)
        · have HNP : Hid (¬ pathOk s.data.toList) := Lib.hid (fun h => by
            rcases h.2 with h2 | h2
            · exact HNR.out h2
            · rw [HTL.out] at h2
              obtain ⟨x, hx, hx2⟩ := List.any_eq_true.1 HBB.out.symm
              rw [HPW.out] at hx
              simp [h2.2 x hx] at hx2)
          go_wp2_with fail
          exact bodyPost_ret (v := .tuple #[.slice none 0 0, .int .i64 18]) (by simp [results, Tryz.results49, go_sem]) rfl (SplE.bad HNP.out HK4.out)
      · have g8 : (8 : Int) < (P.length : Int) := by omega
        have HNP : Hid (¬ pathOk s.data.toList) := Lib.hid (fun h => by
          rcases h.2 with h2 | h2
          · exact HNR.out h2
          · rw [HTL.out] at h2
            have := h2.1
            omega)
        clear hr hT hsT hTL h0 h47 ht hsz hps hP hxl hwl hnr g0 h8
        go_enter Tryz.func49, Tryz.ntmps49
        go_wp2_with (first
          | (go_at_call 56; refine HCP.out.mono ?_; rintro e w2 ⟨rfl, hk2⟩; have HK := Lib.hid hk2; clear hk2)
          | (go_at_call 57; refine (HSN.out _ (HV.out.no HK.out)).mono ?_; rintro e w3 ⟨cap, rfl, hv3, hk3⟩; have HK3 := Lib.hid (HK.out.trans hk3 (fun _ _ h => h)); clear hk3 hv3))
        exact bodyPost_ret (v := .tuple #[.slice none 0 0, .int .i64 18]) (by simp [results, Tryz.results49, go_sem]) rfl (SplE.bad HNP.out HK3.out)
  · rw [if_neg h47, decide_eq_false h47] at HCP
    have HNP : Hid (¬ pathOk s.data.toList) := Lib.hid (fun h => h47 h.1)
    clear h47
    go_enter Tryz.func49, Tryz.ntmps49
    go_wp2_with (go_at_call 56; refine HCP.out.mono ?_; rintro e w2 ⟨rfl, hk2⟩; have HK := Lib.hid hk2; clear hk2)
    exact bodyPost_ret (v := .tuple #[.slice none 0 0, .int .i64 18]) (by simp [results, Tryz.results49, go_sem]) rfl (SplE.bad HNP.out HK.out)
end Go.Proofs.YtokafgleejcbgaaGreatDoor
