/-
  Layer 29: the walk of DirsPaths.
-/
import Derived.Test.YtiifkcjngajegaaDoorDirG
namespace Go.Proofs.YtiifkcjngajegaaDoor
open Go.RowKit
set_option linter.unusedVariables false

theorem join_wgs (r : List UInt8) : ∀ cur, Lib.join (wgs cur r) [47] = cur ++ r := by
  induction r with
  | nil => intro cur; rw [wgs]; simp [Lib.join]
  | cons c r ih =>
    intro cur
    rw [wgs]
    split
    · rename_i h
      have hne : wgs [] r ≠ [] := fun h0 => by have := wgs_pos r []; rw [h0] at this; simp at this
      rw [join_cons29 _ _ hne, ih, h]; simp
    · rw [ih]; simp
/-- What is split is joined. -/
theorem split_join {l : List UInt8} (h : pathE l = 0) : jn29 (pathNs l) = l ∧ und29 l [47] = true ∧ und29 l l = true := by
  have hp : pathOk l := by
    unfold pathE at h
    by_cases hh : pathOk l
    · exact hh
    · rw [if_neg hh] at h; cases h
  have hroot : pathE [47] = 0 ∧ pathNs [47] = [] := ⟨by decide, by decide⟩
  refine ⟨?_, ?_, ?_⟩
  · by_cases h47 : l = [47]
    · rw [h47, hroot.2]; rfl
    · have hns : pathNs l = wgs [] l.tail := by unfold pathNs; rw [if_pos ⟨hp, h47⟩]
      rw [hns]
      unfold jn29
      rw [join_wgs]
      cases l with
      | nil => cases hp.1
      | cons a b => have := hp.1; injection this with this; rw [this]; rfl
  · unfold und29
    rw [hroot.1, hroot.2]
    exact decide_eq_true ⟨h, rfl, Nat.zero_le _, rfl⟩
  · unfold und29
    exact decide_eq_true ⟨h, h, Nat.le_refl _, List.take_length⟩
set_option maxRecDepth 100000 in
set_option maxHeartbeats 4000000 in
theorem DirsPaths_any (s t : ByteArray) (v : Value) (l : List (List UInt8)) (w : World) (h : TSl w (fun k => k < w.heap.size) v l) (hlb : ∀ x ∈ l, x.length ≤ 9223372036854775807) (hv : Lng w) (hs0 : s.size ≤ 9223372036854775807) (ht0 : t.size ≤ 9223372036854775807) :
    Calls Tryd.prog 6 #[.string s, .string t, v] w fun e w' => e = .returned (.bool true) ∧ Kept NoB w w' := by
  have hmax := tsl_len h
  unfold maxLen at hmax
  obtain ⟨a, cap, rfl, _⟩ := id h
  have HV := Lib.hid hv
  have HN := Lib.hid h.any
  have HK := Lib.hid (Kept.refl NoB w)
  have HAW := Lib.hid (fun w hv => awake29_any w hv)
  clear h hv
  by_cases h1 : 200 < s.size
  · have g1 : (200 : Int) < (s.size : Int) := by omega
    clear h1
    go_enter Tryd.func6, Tryd.ntmps6
    go_wp2_with (go_at_call 8; refine (HAW.out _ (HV.out.no HK.out)).mono ?_; rintro e w2 ⟨rfl, hk⟩; replace HK := Lib.hid (HK.out.trans hk (fun _ _ h => h)); (try replace HN := Lib.hid (HN.out.no hk)); (try replace HL1 := Lib.hid (HL1.out.no hk)); (try replace HL2 := Lib.hid (HL2.out.no hk)); clear hk)
    go_ret
    exact ⟨rfl, HK.out⟩
  · have g1 : (s.size : Int) ≤ 200 := by omega
    have g1' : decide ((200 : Int) < (s.size : Int)) = false := decide_eq_false (by omega)
    by_cases h2 : 200 < t.size
    · have g2 : (200 : Int) < (t.size : Int) := by omega
      clear h1 h2
      go_enter Tryd.func6, Tryd.ntmps6
      go_wp2_with (go_at_call 8; refine (HAW.out _ (HV.out.no HK.out)).mono ?_; rintro e w2 ⟨rfl, hk⟩; replace HK := Lib.hid (HK.out.trans hk (fun _ _ h => h)); (try replace HN := Lib.hid (HN.out.no hk)); (try replace HL1 := Lib.hid (HL1.out.no hk)); (try replace HL2 := Lib.hid (HL2.out.no hk)); clear hk)
      go_ret
      exact ⟨rfl, HK.out⟩
    · have g2 : (t.size : Int) ≤ 200 := by omega
      have g2' : decide ((200 : Int) < (t.size : Int)) = false := decide_eq_false (by omega)
      by_cases h3 : 20 < l.length
      · have g3 : (20 : Int) < (l.length : Int) := by omega
        clear h1 h2 h3
        go_enter Tryd.func6, Tryd.ntmps6
        go_wp2_with (go_at_call 8; refine (HAW.out _ (HV.out.no HK.out)).mono ?_; rintro e w2 ⟨rfl, hk⟩; replace HK := Lib.hid (HK.out.trans hk (fun _ _ h => h)); (try replace HN := Lib.hid (HN.out.no hk)); (try replace HL1 := Lib.hid (HL1.out.no hk)); (try replace HL2 := Lib.hid (HL2.out.no hk)); clear hk)
        go_ret
        exact ⟨rfl, HK.out⟩
      · have g3 : (l.length : Int) ≤ 20 := by omega
        have g3' : decide ((20 : Int) < (l.length : Int)) = false := decide_eq_false (by omega)
        have hs : s.size ≤ 1000000 := by omega
        have ht : t.size ≤ 1000000 := by omega
        have hl20 : l.length ≤ 20 := by omega
        have HLB := Lib.hid hlb
        clear h1 h2 h3 hlb
        go_enter Tryd.func6, Tryd.ntmps6
        go_wp2_with fail
        go_loop [7] (fun i => ∃ k : Nat, k ≤ l.length ∧ i = .int .i64 k ∧ ∀ j, j < k → (l.getD j []).length ≤ 30) (fun i => l.length - (RowKit.intOf i).toNat)
        case atStart => exact ⟨0, Nat.zero_le _, rfl, fun j hj => by omega⟩
        case round =>
          obtain ⟨k, hk, rfl, hsm⟩ := hrel
          have HSM := Lib.hid hsm
          clear hsm
          by_cases hlt : k < l.length
          · have hk1 : (k : Int) < (l.length : Int) := by omega
            have hk0 : (0 : Int) ≤ (k : Int) := by omega
            obtain ⟨b, o, rfl, _, _, hc⟩ := HN.out.at_ hlt
            have hsize : (⟨(l.getD k []).toArray⟩ : ByteArray).size = (l.getD k []).length := by show (l.getD k []).toArray.size = _; simp
            have hlb := HLB.out _ (getD_mem29 hlt)
            obtain ⟨n, hn⟩ : ∃ n, n = (l.getD k []).length := ⟨_, rfl⟩
            rw [← hn] at hsize hlb
            have HNE := Lib.hid hn
            obtain ⟨B, hB⟩ : ∃ B : ByteArray, B = ⟨(l.getD k []).toArray⟩ := ⟨_, rfl⟩
            rw [← hB] at hsize hc
            have hsz2 : (B.size : Int) = (n : Int) := by rw [hsize]
            clear hn hB hsize
            by_cases h30 : 30 < n
            · have g4 : (30 : Int) < (n : Int) := by omega
              clear h30
              go_wp2_with (go_at_call 8; refine (HAW.out _ (HV.out.no HK.out)).mono ?_; rintro e w2 ⟨rfl, hk⟩; replace HK := Lib.hid (HK.out.trans hk (fun _ _ h => h)); (try replace HN := Lib.hid (HN.out.no hk)); (try replace HL1 := Lib.hid (HL1.out.no hk)); (try replace HL2 := Lib.hid (HL2.out.no hk)); clear hk)
              go_ret
              exact ⟨rfl, HK.out⟩
            · have g4 : (n : Int) ≤ 30 := by omega
              have g5 : decide ((30 : Int) < (n : Int)) = false := decide_eq_false (by omega)
              have HN30 := Lib.hid h30
              clear h30
              go_wp2_with fail
              go_round
              case rel => exact ⟨k + 1, by omega, by go_num, fun j hj => by
                rcases (by omega : j < k ∨ j = k) with h | rfl
                · exact HSM.out j h
                · have := HNE.out; have := HN30.out; omega⟩
              case measure => simp [RowKit.intOf]; omega
          · obtain rfl : k = l.length := by omega
            have hall : ∀ x ∈ l, x.length ≤ 30 := fun x hx => by
              obtain ⟨j, hj, rfl⟩ := List.getElem_of_mem hx
              have := HSM.out j hj
              rw [List.getD_eq_getElem?_getD, List.getElem?_eq_getElem hj] at this
              exact this
            have hb1 := join_short29 l 30 hall
            have hb2 := flat_short29 l 30 hall
            have HJ1 := Lib.hid (fun v w (h : TSl w (fun _ => True) v l) => vJoin_any v l _ w h (by omega) (by omega))
            have HJ3 := Lib.hid (fun v w (h : TSl w (fun _ => True) v l) => rJoin29_any v l _ w h (by omega) (by omega))
            have HS1 := Lib.hid (fun w hv => vSplit_any s w hs hv)
            have HS2 := Lib.hid (fun w => rSplit29_any s w hs)
            have HA1 := Lib.hid (fun w hv => vAbove_any s w hs hv)
            have HA2 := Lib.hid (fun w => rAbove29_any s w hs)
            have HU1 := Lib.hid (fun w hv => vUnder_any s t w hs ht hv)
            have HU2 := Lib.hid (fun w hv => vUnder_any s ⟨#[47]⟩ w hs (by decide) hv)
            have HU3 := Lib.hid (fun w hv => vUnder_any s s w hs hs hv)
            have HU4 := Lib.hid (fun w => rUnder29_any s t w hs ht)
            rw [show (⟨#[47]⟩ : ByteArray).data.toList = [47] from rfl] at HU2
            have hsh := pathNs_short s.data.toList
            have hb3 := join_short29 (pathNs s.data.toList) 11 hsh.2
            have hsj := fun h => split_join (l := s.data.toList) h
            have hec := pathE_cases s.data.toList
            obtain ⟨JN, hJN⟩ : ∃ J, J = jn29 l := ⟨_, rfl⟩
            rw [← hJN] at HJ1 HJ3
            have HJ2 := Lib.hid (fun v w (h : TSl w (fun _ => True) v (pathNs s.data.toList)) => vJoin_any v (pathNs s.data.toList) _ w h (by omega) (by omega))
            obtain ⟨E, hE⟩ : ∃ E, E = pathE s.data.toList := ⟨_, rfl⟩
            obtain ⟨NS, hNS⟩ : ∃ N, N = pathNs s.data.toList := ⟨_, rfl⟩
            obtain ⟨AB, hAB⟩ : ∃ N, N = abv29 s.data.toList := ⟨_, rfl⟩
            obtain ⟨U1, hU1⟩ : ∃ N, N = und29 s.data.toList t.data.toList := ⟨_, rfl⟩
            obtain ⟨U2, hU2⟩ : ∃ N, N = und29 s.data.toList [47] := ⟨_, rfl⟩
            obtain ⟨U3, hU3⟩ : ∃ N, N = und29 s.data.toList s.data.toList := ⟨_, rfl⟩
            obtain ⟨J2, hJ2⟩ : ∃ N, N = jn29 (pathNs s.data.toList) := ⟨_, rfl⟩
            rw [← hJ2, ← hU2, ← hU3] at hsj
            rw [← hJ2] at HJ2
            rw [← hE] at hsj hec
            rw [← hNS] at HJ2
            rw [← hE, ← hNS] at HS1 HS2
            rw [← hAB] at HA1 HA2
            rw [← hU1] at HU1 HU4
            rw [← hU2] at HU2
            rw [← hU3] at HU3
            obtain ⟨x, y, er⟩ := AB
            have e1 : (x != x) = false := bne_self_eq_false x
            have e2 : (y != y) = false := bne_self_eq_false y
            have e3 : (er != er) = false := bne_self_eq_false er
            have e4 : (U1 != U1) = false := bne_self_eq_false U1
            have e5 : (E != E) = false := bne_self_eq_false E
            clear hJN hE hNS hAB hU1 hU2 hU3 hJ2 hsh hb1 hb2 hb3 hall hk hlt
            rcases hec with h0 | h0
            · obtain ⟨q1, q2, q3⟩ := hsj h0
              subst h0 q2 q3
              have q4 : (J2 == s.toList) = true := by rw [toL29, q1]; simp
              have q5 : J2 = s.toList := by rw [toL29, q1]
              clear hsj q1
              go_wp2_with (first
                | (go_at_call 29; refine (HS1.out _ (HV.out.no HK.out)).mono ?_; rintro e w2 ⟨v1, rfl, hv1, hk⟩; have hv1' := hv1.any; (obtain ⟨a1, c1, rfl, _⟩ := hv1); replace HK := Lib.hid (HK.out.trans hk (fun _ _ h => h)); (try replace HN := Lib.hid (HN.out.no hk)); (try replace HL1 := Lib.hid (HL1.out.no hk)); (try replace HL2 := Lib.hid (HL2.out.no hk)); have HL1 := Lib.hid hv1'; clear hk hv1')
                | (go_at_call 30; refine (HS2.out _).mono ?_; rintro e w3 ⟨v2, rfl, hv2, hk⟩; have hv2' := hv2.any; (obtain ⟨a2, c2, rfl, _⟩ := hv2); replace HK := Lib.hid (HK.out.trans hk (fun _ _ h => h)); (try replace HN := Lib.hid (HN.out.no hk)); (try replace HL1 := Lib.hid (HL1.out.no hk)); (try replace HL2 := Lib.hid (HL2.out.no hk)); have HL2 := Lib.hid hv2'; clear hk hv2')
                | (go_at_call 31; refine (HA1.out _ (HV.out.no HK.out)).mono ?_; rintro e w2 ⟨rfl, hk⟩; replace HK := Lib.hid (HK.out.trans hk (fun _ _ h => h)); (try replace HN := Lib.hid (HN.out.no hk)); (try replace HL1 := Lib.hid (HL1.out.no hk)); (try replace HL2 := Lib.hid (HL2.out.no hk)); clear hk)
                | (go_at_call 32; refine (HA2.out _).mono ?_; rintro e w2 ⟨rfl, hk⟩; replace HK := Lib.hid (HK.out.trans hk (fun _ _ h => h)); (try replace HN := Lib.hid (HN.out.no hk)); (try replace HL1 := Lib.hid (HL1.out.no hk)); (try replace HL2 := Lib.hid (HL2.out.no hk)); clear hk)
                | (go_at_call 27; refine (SameT29_any _ _ NS NS _ _ _ HL1.out HL2.out).mono ?_; rw [decide_eq_true rfl]; rintro e w2 ⟨rfl, hk⟩; replace HK := Lib.hid (HK.out.trans hk (fun _ _ h => h)); (try replace HN := Lib.hid (HN.out.no hk)); (try replace HL1 := Lib.hid (HL1.out.no hk)); (try replace HL2 := Lib.hid (HL2.out.no hk)); clear hk)
                | (have hm := MU2; clear hm; go_at_call 33; refine (HU3.out _ (HV.out.no HK.out)).mono ?_; rintro e w2 ⟨rfl, hk⟩; replace HK := Lib.hid (HK.out.trans hk (fun _ _ h => h)); (try replace HN := Lib.hid (HN.out.no hk)); (try replace HL1 := Lib.hid (HL1.out.no hk)); (try replace HL2 := Lib.hid (HL2.out.no hk)); clear hk)
                | (have hm := MU1; clear hm; go_at_call 33; refine (HU2.out _ (HV.out.no HK.out)).mono ?_; rintro e w2 ⟨rfl, hk⟩; have MU2 := Lib.hid trivial; replace HK := Lib.hid (HK.out.trans hk (fun _ _ h => h)); (try replace HN := Lib.hid (HN.out.no hk)); (try replace HL1 := Lib.hid (HL1.out.no hk)); (try replace HL2 := Lib.hid (HL2.out.no hk)); clear hk)
                | (go_at_call 33; refine (HU1.out _ (HV.out.no HK.out)).mono ?_; rintro e w2 ⟨rfl, hk⟩; have MU1 := Lib.hid trivial; replace HK := Lib.hid (HK.out.trans hk (fun _ _ h => h)); (try replace HN := Lib.hid (HN.out.no hk)); (try replace HL1 := Lib.hid (HL1.out.no hk)); (try replace HL2 := Lib.hid (HL2.out.no hk)); clear hk)
                | (go_at_call 34; refine (HU4.out _).mono ?_; rintro e w2 ⟨rfl, hk⟩; replace HK := Lib.hid (HK.out.trans hk (fun _ _ h => h)); (try replace HN := Lib.hid (HN.out.no hk)); (try replace HL1 := Lib.hid (HL1.out.no hk)); (try replace HL2 := Lib.hid (HL2.out.no hk)); clear hk)
                | (have hm := MJ1; clear hm; go_at_call 35; refine (HJ2.out _ _ HL1.out).mono ?_; rintro e w2 ⟨rfl, hk⟩; replace HK := Lib.hid (HK.out.trans hk (fun _ _ h => h)); (try replace HN := Lib.hid (HN.out.no hk)); (try replace HL1 := Lib.hid (HL1.out.no hk)); (try replace HL2 := Lib.hid (HL2.out.no hk)); clear hk)
                | (go_at_call 35; refine (HJ1.out _ _ HN.out).mono ?_; rintro e w2 ⟨rfl, hk⟩; have MJ1 := Lib.hid trivial; replace HK := Lib.hid (HK.out.trans hk (fun _ _ h => h)); (try replace HN := Lib.hid (HN.out.no hk)); (try replace HL1 := Lib.hid (HL1.out.no hk)); (try replace HL2 := Lib.hid (HL2.out.no hk)); clear hk)
                | (go_at_call 36; refine (HJ3.out _ _ HN.out).mono ?_; rintro e w2 ⟨rfl, rfl⟩)
                | (go_at_call 8; refine (HAW.out _ (HV.out.no HK.out)).mono ?_; rintro e w2 ⟨rfl, hk⟩; replace HK := Lib.hid (HK.out.trans hk (fun _ _ h => h)); (try replace HN := Lib.hid (HN.out.no hk)); (try replace HL1 := Lib.hid (HL1.out.no hk)); (try replace HL2 := Lib.hid (HL2.out.no hk)); clear hk))
              go_ret
              exact ⟨rfl, HK.out⟩
            · subst h0
              clear hsj
              go_wp2_with (first
                | (go_at_call 29; refine (HS1.out _ (HV.out.no HK.out)).mono ?_; rintro e w2 ⟨v1, rfl, hv1, hk⟩; have hv1' := hv1.any; (obtain ⟨a1, c1, rfl, _⟩ := hv1); replace HK := Lib.hid (HK.out.trans hk (fun _ _ h => h)); (try replace HN := Lib.hid (HN.out.no hk)); (try replace HL1 := Lib.hid (HL1.out.no hk)); (try replace HL2 := Lib.hid (HL2.out.no hk)); have HL1 := Lib.hid hv1'; clear hk hv1')
                | (go_at_call 30; refine (HS2.out _).mono ?_; rintro e w3 ⟨v2, rfl, hv2, hk⟩; have hv2' := hv2.any; (obtain ⟨a2, c2, rfl, _⟩ := hv2); replace HK := Lib.hid (HK.out.trans hk (fun _ _ h => h)); (try replace HN := Lib.hid (HN.out.no hk)); (try replace HL1 := Lib.hid (HL1.out.no hk)); (try replace HL2 := Lib.hid (HL2.out.no hk)); have HL2 := Lib.hid hv2'; clear hk hv2')
                | (go_at_call 31; refine (HA1.out _ (HV.out.no HK.out)).mono ?_; rintro e w2 ⟨rfl, hk⟩; replace HK := Lib.hid (HK.out.trans hk (fun _ _ h => h)); (try replace HN := Lib.hid (HN.out.no hk)); (try replace HL1 := Lib.hid (HL1.out.no hk)); (try replace HL2 := Lib.hid (HL2.out.no hk)); clear hk)
                | (go_at_call 32; refine (HA2.out _).mono ?_; rintro e w2 ⟨rfl, hk⟩; replace HK := Lib.hid (HK.out.trans hk (fun _ _ h => h)); (try replace HN := Lib.hid (HN.out.no hk)); (try replace HL1 := Lib.hid (HL1.out.no hk)); (try replace HL2 := Lib.hid (HL2.out.no hk)); clear hk)
                | (go_at_call 27; refine (SameT29_any _ _ NS NS _ _ _ HL1.out HL2.out).mono ?_; rw [decide_eq_true rfl]; rintro e w2 ⟨rfl, hk⟩; replace HK := Lib.hid (HK.out.trans hk (fun _ _ h => h)); (try replace HN := Lib.hid (HN.out.no hk)); (try replace HL1 := Lib.hid (HL1.out.no hk)); (try replace HL2 := Lib.hid (HL2.out.no hk)); clear hk)
                | (have hm := MU2; clear hm; go_at_call 33; refine (HU3.out _ (HV.out.no HK.out)).mono ?_; rintro e w2 ⟨rfl, hk⟩; replace HK := Lib.hid (HK.out.trans hk (fun _ _ h => h)); (try replace HN := Lib.hid (HN.out.no hk)); (try replace HL1 := Lib.hid (HL1.out.no hk)); (try replace HL2 := Lib.hid (HL2.out.no hk)); clear hk)
                | (have hm := MU1; clear hm; go_at_call 33; refine (HU2.out _ (HV.out.no HK.out)).mono ?_; rintro e w2 ⟨rfl, hk⟩; have MU2 := Lib.hid trivial; replace HK := Lib.hid (HK.out.trans hk (fun _ _ h => h)); (try replace HN := Lib.hid (HN.out.no hk)); (try replace HL1 := Lib.hid (HL1.out.no hk)); (try replace HL2 := Lib.hid (HL2.out.no hk)); clear hk)
                | (go_at_call 33; refine (HU1.out _ (HV.out.no HK.out)).mono ?_; rintro e w2 ⟨rfl, hk⟩; have MU1 := Lib.hid trivial; replace HK := Lib.hid (HK.out.trans hk (fun _ _ h => h)); (try replace HN := Lib.hid (HN.out.no hk)); (try replace HL1 := Lib.hid (HL1.out.no hk)); (try replace HL2 := Lib.hid (HL2.out.no hk)); clear hk)
                | (go_at_call 34; refine (HU4.out _).mono ?_; rintro e w2 ⟨rfl, hk⟩; replace HK := Lib.hid (HK.out.trans hk (fun _ _ h => h)); (try replace HN := Lib.hid (HN.out.no hk)); (try replace HL1 := Lib.hid (HL1.out.no hk)); (try replace HL2 := Lib.hid (HL2.out.no hk)); clear hk)
                | (have hm := MJ1; clear hm; go_at_call 35; refine (HJ2.out _ _ HL1.out).mono ?_; rintro e w2 ⟨rfl, hk⟩; replace HK := Lib.hid (HK.out.trans hk (fun _ _ h => h)); (try replace HN := Lib.hid (HN.out.no hk)); (try replace HL1 := Lib.hid (HL1.out.no hk)); (try replace HL2 := Lib.hid (HL2.out.no hk)); clear hk)
                | (go_at_call 35; refine (HJ1.out _ _ HN.out).mono ?_; rintro e w2 ⟨rfl, hk⟩; have MJ1 := Lib.hid trivial; replace HK := Lib.hid (HK.out.trans hk (fun _ _ h => h)); (try replace HN := Lib.hid (HN.out.no hk)); (try replace HL1 := Lib.hid (HL1.out.no hk)); (try replace HL2 := Lib.hid (HL2.out.no hk)); clear hk)
                | (go_at_call 36; refine (HJ3.out _ _ HN.out).mono ?_; rintro e w2 ⟨rfl, rfl⟩)
                | (go_at_call 8; refine (HAW.out _ (HV.out.no HK.out)).mono ?_; rintro e w2 ⟨rfl, hk⟩; replace HK := Lib.hid (HK.out.trans hk (fun _ _ h => h)); (try replace HN := Lib.hid (HN.out.no hk)); (try replace HL1 := Lib.hid (HL1.out.no hk)); (try replace HL2 := Lib.hid (HL2.out.no hk)); clear hk))
              go_ret
              exact ⟨rfl, HK.out⟩
end Go.Proofs.YtiifkcjngajegaaDoor
