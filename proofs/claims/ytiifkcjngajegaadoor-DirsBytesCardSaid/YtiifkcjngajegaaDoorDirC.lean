/-
  Layer 29: the chapter's Split.
-/
import Derived.Test.YtiifkcjngajegaaDoorDirB
namespace Go.Proofs.YtiifkcjngajegaaDoor
open Go.RowKit
set_option linter.unusedVariables false

theorem SOwn29.form {B : Nat} {w : World} {v : Value} {l : List (List UInt8)} (h : SOwn29 B w v l) : ∃ a c, v = .slice a l.length c := by
  rcases h.2 with ⟨rfl, h0⟩ | ⟨r, cap, cur, rfl, _⟩
  · exact ⟨none, 0, by rw [h0]⟩
  · exact ⟨_, _, rfl⟩
theorem SOwn29.no29 {B : Nat} {w w' : World} {v : Value} {l : List (List UInt8)} (h : SOwn29 B w v l) (hk : Kept NoB w w') : SOwn29 B w' v l := by
  refine ⟨h.1, ?_⟩
  rcases h.2 with hn | ⟨r, cap, cur, rfl, hb, hr, rest⟩
  · exact .inl hn
  · exact .inr ⟨r, cap, cur, rfl, hb, hk.heap (fun h => h) hr, rest⟩
def RSpRel (s : ByteArray) (w : World) (v x i : Value) (wr : World) : Prop :=
  ∃ (j : Nat) (L : List (List UInt8)) (cur : List UInt8), 1 ≤ j ∧ j ≤ s.size + 1 ∧ i = .int .i64 j ∧ x = .string ⟨cur.toArray⟩ ∧ wgs [] s.data.toList.tail = (if j ≤ s.size then L ++ wgs cur (s.data.toList.drop j) else L) ∧ cur.length ≤ j ∧ L.length ≤ j ∧ (∀ y ∈ L, nmOk y) ∧ SOwn29 w.heap.size wr v L ∧ Kept NoB w wr
set_option maxRecDepth 100000 in
set_option maxHeartbeats 2000000 in
theorem rSplit29_any (s : ByteArray) (w : World) (hs : s.size ≤ 1000000) : Calls Tryd.prog 30 #[.string s] w (SplE (pathE s.data.toList) (pathNs s.data.toList) w) := by
  obtain ⟨i0, hi, hz0, hz1, hz2⟩ := info_parts info_string29
  have hHL := len29 s
  by_cases h1 : s.size = 0
  · have g0 : ((s.size : Int) == 0) = true := by simpa using h1
    have hnp : ¬ pathOk s.data.toList := fun h => by
      have h0 : s.data.toList = [] := List.eq_nil_of_length_eq_zero (by omega)
      have := h.1; rw [h0] at this; cases this
    go_enter Tryd.func30, Tryd.ntmps30
    go_wp2
    exact bodyPost_ret (v := .tuple #[.slice none 0 0, .int .i64 18]) (by simp [results, Tryd.results30, go_sem]) rfl (SplE.bad hnp (Kept.refl _ _))
  · have g0 : ((s.size : Int) == 0) = false := by simpa using h1
    have hp0 : 0 < s.size := by omega
    have hp1 : (0 : Int) < (s.size : Int) := by omega
    have hat := byte_at29 s 0 hp0
    have hcons : s.data.toList = s[0]'hp0 :: s.data.toList.drop 1 := by
      have := List.drop_eq_getElem_cons (l := s.data.toList) (i := 0) (by omega)
      rw [List.drop_zero] at this
      exact this
    obtain ⟨c, hc⟩ : ∃ c, c = s[0]'hp0 := ⟨_, rfl⟩
    rw [← hc] at hcons
    have hix : ((s[0]'hp0).toNat : Int) = (c.toNat : Int) := by rw [hc]
    have htl : s.data.toList.tail = s.data.toList.drop 1 := by simp
    by_cases h47 : c.toNat = 47
    · have hc47 : c = 47 := UInt8.toNat_inj.1 h47
      have g1 : ((c.toNat : Int) == 47) = true := by simpa using (by omega : (c.toNat : Int) = 47)
      have g2 : ((c.toNat : Int) != 47) = false := by simpa using (by omega : (c.toNat : Int) = 47)
      have hhd : s.data.toList.head? = some 47 := by rw [hcons, hc47]; rfl
      by_cases hr : s.toList = [47]
      · have g3 : (s.toList == [47]) = true := by simpa using hr
        have hr2 : s.data.toList = [47] := by rw [← toL29]; exact hr
        have HR := Lib.hid hr2
        clear hat hcons hc htl hhd hr hr2 h47
        go_enter Tryd.func30, Tryd.ntmps30
        go_wp2
        exact bodyPost_ret (v := .tuple #[.slice none 0 0, .int .i64 0]) (by simp [results, Tryd.results30, go_sem]) rfl (SplE.root HR.out (Kept.refl _ _))
      · have g3 : (s.toList == [47]) = false := by simpa using hr
        have hr2 : s.data.toList ≠ [47] := by rw [← toL29]; exact hr
        have HR := Lib.hid hr2
        have HH := Lib.hid hhd
        have H0 : Hid (wgs [] s.data.toList.tail = [] ++ wgs [] (s.data.toList.drop 1)) := Lib.hid (by rw [htl]; rfl)
        have HLN := Lib.hid hHL
        have HAL := Lib.hid (wgs_len s.data.toList.tail [])
        have HTL : Hid (s.data.toList.tail.length + 1 = s.size) := Lib.hid (by rw [List.length_tail, hHL]; omega)
        clear hat hcons hc htl hhd hr hr2 h47 hHL
        go_enter Tryd.func30, Tryd.ntmps30
        go_wp2_with fail
        go_loopw [4, 5, 6] (fun v x i wr => RSpRel s w v x i wr) (fun _ _ i _ => s.size + 1 - (RowKit.intOf i).toNat)
        case atStart => exact ⟨1, [], [], Nat.le_refl _, by omega, rfl, rfl, by rw [if_pos (by omega)]; exact H0.out, by simp, by simp, (fun _ h => by cases h), World.ownsRow_nil _ _ _ _, Kept.refl _ _⟩
        case round =>
          obtain ⟨j, L, cur, hj1, hj, rfl, rfl, hG, hcl, hLl, hok, hown, hkk⟩ := hrel
          obtain ⟨va, vc, rfl⟩ := hown.form
          have HO := Lib.hid hown
          have HK := Lib.hid hkk
          have HOK := Lib.hid hok
          clear hown hkk hok
          by_cases hle : j ≤ s.size
          · rw [if_pos hle] at hG
            have HG := Lib.hid hG
            have g5 : (j : Int) ≤ (s.size : Int) := by omega
            have g50 : (0 : Int) ≤ (j : Int) := by omega
            clear hG
            have HNM := Lib.hid (fun w => rName29_any ⟨cur.toArray⟩ w (by show cur.toArray.size ≤ 1000000; simp; omega))
            rw [show (⟨cur.toArray⟩ : ByteArray).data.toList = cur from by simp] at HNM
            by_cases hlt : j < s.size
            · have g6 : (j : Int) < (s.size : Int) := by omega
              have g61 : (j : Int) + 1 ≤ (s.size : Int) := by omega
              have hdr : s.data.toList.drop j = s[j]'hlt :: s.data.toList.drop (j + 1) := List.drop_eq_getElem_cons (by simpa using hlt)
              have HDR := Lib.hid hdr
              have hex := extract_one29 s j hlt
              clear hdr
              by_cases h47 : (s[j]'hlt).toNat = 47
              · have HG2 : Hid (wgs [] s.data.toList.tail = (L ++ [cur]) ++ wgs [] (s.data.toList.drop (j + 1))) := Lib.hid (by
                  rw [HG.out, HDR.out, wgs, if_pos (UInt8.toNat_inj.1 h47), List.append_assoc]; rfl)
                have h47' : ((s[j]'hlt).toNat : Int) = 47 := by omega
                clear h47 hex
                by_cases hnm : nmOk cur
                · rw [decide_eq_true hnm] at HNM
                  have HOK2 : Hid (∀ y ∈ L ++ [cur], nmOk y) := Lib.hid (fun y hy => by
                    rcases List.mem_append.1 hy with h | h
                    · exact HOK.out y h
                    · rw [List.mem_singleton.1 h]; exact hnm)
                  clear hnm
                  go_wp2_with (first | (go_at_call 14; refine (HNM.out _).mono ?_; rintro e w7 ⟨rfl, hk7⟩; have HK7 := Lib.hid (HK.out.trans hk7 (fun _ _ h => h)); have HO7 := Lib.hid (show SOwn29 w.heap.size w7 (.slice va L.length vc) L from (HO.out.no29 hk7)); clear hk7) | (at_builtin; refine wpList_append_own _ rfl (.tmp 43) (.tmp 45) 54 rfl w.heap.size 9 i0 (.string ByteArray.empty) 1 16 Tryd.underlying54 hi hz0 hz1 hz2 rfl (by decide) (.slice va L.length vc) L.length (sv29 L) rfl (World.ownsRow.alloc (w := w7) HO7.out (.cells #[.string ⟨cur.toArray⟩] 9)) ⟨w7.heap.size, 0, none⟩ 1 1 [.string ⟨cur.toArray⟩] rfl rfl (snews_one29 w7 cur) (sone_fine29 cur) (by unfold maxLen; omega) (by omega) (ssize_one29 w7 HK7.out.size cur) ?_; intro v' w2 hown2 hg2 _; have HP := Lib.hid (put_sown29 HO7.out HK7.out _ hown2 hg2); clear hown2 hg2))
                  go_roundw
                  case measure => (simp [RowKit.intOf]; try omega)
                  case rel => exact ⟨j + 1, L ++ [cur], [], by omega, by omega, by go_num, rfl, by rw [if_pos (by omega)]; exact HG2.out, by simp, by simp; omega, HOK2.out, HP.out.1, HP.out.2⟩
                · rw [decide_eq_false hnm] at HNM
                  have HNP : Hid (¬ pathOk s.data.toList) := Lib.hid (fun h => by
                    rcases h.2 with h2 | h2
                    · exact HR.out h2
                    · exact hnm (h2.2 cur (by rw [HG2.out]; simp)))
                  clear hnm
                  go_wp2_with (go_at_call 14; refine (HNM.out _).mono ?_; rintro e w7 ⟨rfl, hk7⟩; have HK7 := Lib.hid (HK.out.trans hk7 (fun _ _ h => h)); have HO7 := Lib.hid (show SOwn29 w.heap.size w7 (.slice va L.length vc) L from (HO.out.no29 hk7)); clear hk7)
                  exact bodyPost_ret (v := .tuple #[.slice none 0 0, .int .i64 18]) (by simp [results, Tryd.results30, go_sem]) rfl (SplE.bad HNP.out HK7.out)
              · have HG2 : Hid (wgs [] s.data.toList.tail = L ++ wgs (cur ++ [s[j]'hlt]) (s.data.toList.drop (j + 1))) := Lib.hid (by
                  rw [HG.out, HDR.out, wgs, if_neg (fun e => h47 (by rw [e]; rfl))])
                have h47' : (((s[j]'hlt).toNat : Int) == 47) = false := by simpa using (by omega : ¬ ((s[j]'hlt).toNat : Int) = 47)
                have h47'' : (((s[j]'hlt).toNat : Int) != 47) = true := by simpa using (by omega : ¬ ((s[j]'hlt).toNat : Int) = 47)
                have hadd := add_lists29 cur [s[j]'hlt] (by omega) (by simp)
                rw [← hex] at hadd
                obtain ⟨cur', hcur⟩ : ∃ x, x = cur ++ [s[j]'hlt] := ⟨_, rfl⟩
                have hcl' : cur'.length ≤ j + 1 := by rw [hcur]; simp; omega
                rw [← hcur] at hadd HG2
                clear h47 hex hcur
                go_wp2_with fail
                go_roundw
                case rel => exact ⟨j + 1, L, cur', by omega, by omega, by go_num, rfl, by rw [if_pos (by omega)]; exact HG2.out, hcl', by omega, HOK.out, HO.out, HK.out⟩
                case measure => simp [RowKit.intOf]; omega
            · obtain rfl : j = s.size := by omega
              have g6 : decide ((s.size : Int) < (s.size : Int)) = false := decide_eq_false (by omega)
              have HG2 : Hid (wgs [] s.data.toList.tail = L ++ [cur]) := Lib.hid (by
                rw [HG.out, List.drop_eq_nil_of_le (by simp)]; rfl)
              by_cases hnm : nmOk cur
              · rw [decide_eq_true hnm] at HNM
                have HOK2 : Hid (∀ y ∈ L ++ [cur], nmOk y) := Lib.hid (fun y hy => by
                  rcases List.mem_append.1 hy with h | h
                  · exact HOK.out y h
                  · rw [List.mem_singleton.1 h]; exact hnm)
                clear hnm
                go_wp2_with (first | (go_at_call 14; refine (HNM.out _).mono ?_; rintro e w7 ⟨rfl, hk7⟩; have HK7 := Lib.hid (HK.out.trans hk7 (fun _ _ h => h)); have HO7 := Lib.hid (show SOwn29 w.heap.size w7 (.slice va L.length vc) L from (HO.out.no29 hk7)); clear hk7) | (at_builtin; refine wpList_append_own _ rfl (.tmp 43) (.tmp 45) 54 rfl w.heap.size 9 i0 (.string ByteArray.empty) 1 16 Tryd.underlying54 hi hz0 hz1 hz2 rfl (by decide) (.slice va L.length vc) L.length (sv29 L) rfl (World.ownsRow.alloc (w := w7) HO7.out (.cells #[.string ⟨cur.toArray⟩] 9)) ⟨w7.heap.size, 0, none⟩ 1 1 [.string ⟨cur.toArray⟩] rfl rfl (snews_one29 w7 cur) (sone_fine29 cur) (by unfold maxLen; omega) (by omega) (ssize_one29 w7 HK7.out.size cur) ?_; intro v' w2 hown2 hg2 _; have HP := Lib.hid (put_sown29 HO7.out HK7.out _ hown2 hg2); clear hown2 hg2))
                go_roundw
                case measure => (simp [RowKit.intOf]; try omega)
                case rel => exact ⟨s.size + 1, L ++ [cur], [], by omega, by omega, by go_num, rfl, by rw [if_neg (by omega)]; exact HG2.out, by simp, by simp; omega, HOK2.out, HP.out.1, HP.out.2⟩
              · rw [decide_eq_false hnm] at HNM
                have HNP : Hid (¬ pathOk s.data.toList) := Lib.hid (fun h => by
                  rcases h.2 with h2 | h2
                  · exact HR.out h2
                  · exact hnm (h2.2 cur (by rw [HG2.out]; simp)))
                clear hnm
                go_wp2_with (go_at_call 14; refine (HNM.out _).mono ?_; rintro e w7 ⟨rfl, hk7⟩; have HK7 := Lib.hid (HK.out.trans hk7 (fun _ _ h => h)); have HO7 := Lib.hid (show SOwn29 w.heap.size w7 (.slice va L.length vc) L from (HO.out.no29 hk7)); clear hk7)
                exact bodyPost_ret (v := .tuple #[.slice none 0 0, .int .i64 18]) (by simp [results, Tryd.results30, go_sem]) rfl (SplE.bad HNP.out HK7.out)
          · rw [if_neg hle] at hG
            obtain rfl : j = s.size + 1 := by omega
            have g5 : decide (((s.size : Int) + 1) ≤ (s.size : Int)) = false := decide_eq_false (by omega)
            have g51 : (s.size : Int) < ((s.size + 1 : Nat) : Int) := by omega
            have HG := Lib.hid hG
            clear hG hle
            by_cases h8 : L.length ≤ 8
            · have g7 : (L.length : Int) ≤ 8 := by omega
              have HPO : Hid (pathOk s.data.toList) := Lib.hid ⟨HH.out, .inr (by rw [HG.out]; exact ⟨h8, HOK.out⟩)⟩
              go_wp2_with fail
              exact bodyPost_ret (v := .tuple #[.slice va L.length vc, .int .i64 0]) (by simp [results, Tryd.results30, go_sem]) rfl (SplE.ok HPO.out HR.out (by rw [HG.out]; exact HO.out.sl) HK.out)
            · have g7 : (8 : Int) < (L.length : Int) := by omega
              have HNP : Hid (¬ pathOk s.data.toList) := Lib.hid (fun h => by
                rcases h.2 with h2 | h2
                · exact HR.out h2
                · rw [HG.out] at h2; exact h8 h2.1)
              go_wp2_with fail
              exact bodyPost_ret (v := .tuple #[.slice none 0 0, .int .i64 18]) (by simp [results, Tryd.results30, go_sem]) rfl (SplE.bad HNP.out HK.out)
    · have g1 : ((c.toNat : Int) == 47) = false := by simpa using (by omega : ¬ (c.toNat : Int) = 47)
      have g2 : ((c.toNat : Int) != 47) = true := by simpa using (by omega : ¬ (c.toNat : Int) = 47)
      have hnp : ¬ pathOk s.data.toList := fun h => by
        have h2 := h.1
        rw [hcons] at h2
        injection h2 with h2
        exact h47 (by rw [h2]; rfl)
      have HNP := Lib.hid hnp
      clear hat hcons hc htl hnp h47
      go_enter Tryd.func30, Tryd.ntmps30
      go_wp2
      exact bodyPost_ret (v := .tuple #[.slice none 0 0, .int .i64 18]) (by simp [results, Tryd.results30, go_sem]) rfl (SplE.bad HNP.out (Kept.refl _ _))
end Go.Proofs.YtiifkcjngajegaaDoor
