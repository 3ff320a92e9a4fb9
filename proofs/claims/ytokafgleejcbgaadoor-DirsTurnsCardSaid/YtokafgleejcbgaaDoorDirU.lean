/-
  Layer 29: ours, far of the statements; what is put is got.
-/
import Derived.Test.YtokafgleejcbgaaDoorDirS
namespace Go.Proofs.YtokafgleejcbgaaDoor
open Go.RowKit
set_option linter.unusedVariables false

theorem rowE_put (p : En) (r : List Int) (h1 : p.1.length ≤ 11) (h2 : 1 ≤ p.2) (h3 : p.2 ≤ 65535) : (bytE p ++ r).getD 0 0 = (p.1.length : Int) ∧ rowE (bytE p ++ r) = p ∧ (bytE p ++ r).drop 16 = r := by
  have e1 : bytE p ++ r = (p.1.length : Int) :: (ints29 p.1 ++ (List.replicate (11 - p.1.length) 0 ++ (be p.2.toNat 4 ++ r))) := by
    unfold bytE pad29
    rw [one29 p.1.length (by omega)]
    simp [ints29]
  have hpl : (ints29 p.1 ++ List.replicate (11 - p.1.length) (0 : Int)).length = 11 := by rw [List.length_append, ints29_len, List.length_replicate]; omega
  have e2 : (bytE p ++ r).drop 12 = be p.2.toNat 4 ++ r := by
    rw [e1, show 12 = 11 + 1 by rfl, List.drop_succ_cons, ← List.append_assoc, List.drop_left' hpl]
  have e0 : (bytE p ++ r).getD 0 0 = (p.1.length : Int) := by rw [e1]; rfl
  refine ⟨e0, ?_, ?_⟩
  · unfold rowE
    rw [e0, Int.toNat_natCast, e2]
    have e3 : ((bytE p ++ r).drop 1).take p.1.length = ints29 p.1 := by
      rw [e1]
      show (ints29 p.1 ++ _).take p.1.length = _
      rw [List.take_left' (ints29_len p.1)]
    rw [e3, bytesU_ints, List.take_left' (be_len _ _), num_be]
    have : p.2.toNat % 256 ^ 4 = p.2.toNat := Nat.mod_eq_of_lt (by omega)
    rw [this]
    obtain ⟨x, y⟩ := p
    simp only at h2 ⊢
    rw [show ((y.toNat : Nat) : Int) = y by omega]
  · rw [show 16 = 12 + 4 by rfl, ← List.drop_drop, e2, List.drop_left' (be_len _ _)]
theorem entsR_put (l : List En) (h : ∀ p ∈ l, nmOk p.1 ∧ 1 ≤ p.2 ∧ p.2 ≤ 65535) : entsR l.length (bytEs l) = some l := by
  induction l with
  | nil => rfl
  | cons p l ih =>
    obtain ⟨h1, h2, h3⟩ := h p (by simp)
    have hb : bytEs (p :: l) = bytE p ++ bytEs l := by unfold bytEs; rw [List.flatMap_cons]
    obtain ⟨q1, q2, q3⟩ := rowE_put p (bytEs l) h1.1.2 h2 h3
    have hl := h1.1.2
    rw [List.length_cons, entsR, hb, q1, if_neg (by omega), q3, ih (fun q hq => h q (by simp [hq])), q2]
    rfl
/-- What is put is got. -/
theorem gotE_put (l : List En) (h : chkE l = 0) : gotE (bytEs l) = (0, l) := by
  obtain ⟨h1, _, h2⟩ := chkE_zero h
  have hlen := bytEs_len l (fun p hp => (h2 p hp).1.1.2)
  unfold gotE
  rw [if_neg (by omega), if_neg (by omega), show (bytEs l).length / 16 = l.length by omega, entsR_put l h2]
  show (if chkE l = 0 ∧ bytEs l = bytEs l then ((0 : Int), l) else (4, [])) = _
  rw [if_pos ⟨h, rfl⟩]
/-- Are entries more than is looked at? -/
def farE (l : List En) : Bool := (l.take 50).any (fun p => decide (30 < p.1.length)) || decide (40 < l.length)
theorem farE_not {l : List En} (h : farE l = false) : l.length ≤ 40 ∧ ∀ p ∈ l, p.1.length ≤ 30 := by
  unfold farE at h
  rw [Bool.or_eq_false_iff] at h
  have h40 : l.length ≤ 40 := by have := of_decide_eq_false h.2; omega
  refine ⟨h40, fun p hp => ?_⟩
  have h1 := h.1
  rw [List.take_of_length_le (by omega), List.any_eq_false] at h1
  have := h1 p hp
  simpa using this
set_option maxRecDepth 100000 in
set_option maxHeartbeats 4000000 in
theorem far29_any (v : Value) (l : List En) (F : Nat → Prop) (w : World) (h : ESl w F v l) (hlb : ∀ x ∈ l, x.1.length ≤ 9223372036854775807) :
    Calls Tryd.prog 4 #[v] w fun e w' => e = .returned (.bool (farE l)) ∧ Kept NoB w w' := by
  obtain ⟨a, c, rfl, hmax⟩ := h.form
  unfold maxLen at hmax
  have HP := Lib.hid h
  have HLB := Lib.hid hlb
  obtain ⟨R, hR⟩ : ∃ R, R = farE l := ⟨_, rfl⟩
  rw [← hR]
  have HR := Lib.hid hR
  clear h hlb hR
  go_enter Tryd.func4, Tryd.ntmps4
  go_wp2_with fail
  go_loopw [3] (fun i wr => ∃ k : Nat, k ≤ l.length ∧ k ≤ 50 ∧ i = .int .i64 k ∧ (∀ j, j < k → (eth l j).1.length ≤ 30) ∧ Kept NoB w wr) (fun i _ => l.length - (RowKit.intOf i).toNat)
  case atStart => exact ⟨0, Nat.zero_le _, by decide, rfl, (fun j hj => by omega), Kept.refl _ _⟩
  case round =>
    obtain ⟨k, hk, hk50, rfl, hsm, hkk⟩ := hrel
    have HK := Lib.hid hkk
    have HSM := Lib.hid hsm
    have hk0 : (0 : Int) ≤ (k : Int) := by omega
    by_cases hlt : k < l.length
    · have hk1 : (k : Int) < (l.length : Int) := by omega
      by_cases h50 : k < 50
      · have g50 : (k : Int) < 50 := by omega
        obtain ⟨b, o, rfl, _, _, e0, e1⟩ := (HP.out.no hkk).at_ hlt
        have hlb := HLB.out _ (eth_mem hlt)
        have hmem : eth l k ∈ l.take 50 := by
          rw [eth_eq hlt]
          exact List.mem_take_iff_getElem.2 ⟨k, by omega, rfl⟩
        obtain ⟨x, hx⟩ : ∃ x, x = eth l k := ⟨_, rfl⟩
        rw [← hx] at e0 e1 hlb hmem
        obtain ⟨nm, nd⟩ := x
        simp only at e0 e1 hlb
        have HX := Lib.hid hx
        obtain ⟨sx, hsx⟩ : ∃ sx : ByteArray, sx = ⟨nm.toArray⟩ := ⟨_, rfl⟩
        rw [← hsx] at e0
        obtain ⟨N, hN⟩ : ∃ N, N = nm.length := ⟨_, rfl⟩
        have hss : sx.size = N := by rw [hsx, hN]; show nm.toArray.size = _; simp
        have HN := Lib.hid hN
        have HM := Lib.hid hmem
        rw [← hN] at hlb
        clear hsm hkk hx hsx hmem hN
        by_cases h30 : 30 < N
        · have g1 : (30 : Int) < (N : Int) := by omega
          have HRR : Hid (R = true) := Lib.hid (by
            rw [HR.out]
            unfold farE
            rw [Bool.or_eq_true]
            exact .inl (List.any_eq_true.2 ⟨_, HM.out, decide_eq_true (by have := HN.out; show 30 < nm.length; omega)⟩))
          clear h30
          go_wp2_with fail
          go_ret
          exact ⟨by rw [HRR.out]; rfl, HK.out⟩
        · have g1 : (N : Int) ≤ 30 := by omega
          have g1' : decide ((30 : Int) < (N : Int)) = false := decide_eq_false (by omega)
          clear h30
          go_wp2_with fail
          go_roundw
          case rel => exact ⟨k + 1, by omega, by omega, by go_num, fun j hj => by
            rcases Nat.lt_or_ge j k with h | h
            · exact HSM.out j h
            · obtain rfl : j = k := by omega
              rw [← HX.out]; have := HN.out; show nm.length ≤ 30; omega, HK.out⟩
          case measure => simp [RowKit.intOf]; omega
      · have g50 : (50 : Int) ≤ (k : Int) := by omega
        have g40 : (40 : Int) < (l.length : Int) := by omega
        have HRR : Hid (R = true) := Lib.hid (by
          rw [HR.out]; unfold farE; rw [decide_eq_true (show 40 < l.length by omega), Bool.or_true])
        clear hsm hkk
        go_wp2_with fail
        go_ret
        exact ⟨by rw [HRR.out]; rfl, HK.out⟩
    · obtain rfl : k = l.length := by omega
      have HRR : Hid (R = decide ((40 : Int) < (l.length : Int))) := Lib.hid (by
        rw [HR.out]
        unfold farE
        have h1 : (l.take 50).any (fun p => decide (30 < p.1.length)) = false := by
          rw [List.any_eq_false]
          intro p hp
          obtain ⟨j, hj, rfl⟩ := List.getElem_of_mem (List.mem_of_mem_take hp)
          have := HSM.out j hj
          rw [eth_eq hj] at this
          simpa using this
        rw [h1, Bool.false_or]
        by_cases h : 40 < l.length
        · rw [decide_eq_true h, decide_eq_true (by omega)]
        · rw [decide_eq_false h, decide_eq_false (by omega)])
      clear hsm hkk
      go_wp2_with fail
      go_ret
      exact ⟨by rw [HRR.out]; rfl, HK.out⟩
set_option maxRecDepth 100000 in
set_option maxHeartbeats 4000000 in
theorem ours29_any (u : Value) (l : List En) (F : Nat → Prop) (w : World) (h : ESl w F u l) (hl : l.length ≤ 1000) :
    Calls Tryd.prog 7 #[u] w fun e w' => ∃ v, e = .returned v ∧ ESl w' (fun k => w.heap.size ≤ k) v l ∧ Kept NoB w w' := by
  obtain ⟨i0, hi0, hz0, hz1, hz2⟩ := info_parts info_en
  obtain ⟨a, c, rfl, _⟩ := h.form
  have HP := Lib.hid h
  clear h
  go_enter Tryd.func7, Tryd.ntmps7
  go_wp2_with fail
  go_loopw [3, 4] (fun o i wr => ∃ (j : Nat) (va : Option Addr) (vc : Nat), j ≤ l.length ∧ i = .int .i64 j ∧ o = .slice va j vc ∧ EOwn 32 w.heap.size wr (.slice va j vc) (l.take j) ∧ Kept NoB w wr) (fun _ i _ => l.length - (RowKit.intOf i).toNat)
  case atStart => exact ⟨0, none, 0, Nat.zero_le _, rfl, rfl, World.ownsRow_nil _ _ _ _, Kept.refl _ _⟩
  case round =>
    obtain ⟨j, va, vc, hj, rfl, rfl, hown, hkk⟩ := hrel
    have HO := Lib.hid hown
    have HK := Lib.hid hkk
    have HSZ := Lib.hid hkk.size
    clear hown
    by_cases hlt : j < l.length
    · have hj1 : (j : Int) < (l.length : Int) := by omega
      have hj0 : (0 : Int) ≤ (j : Int) := by omega
      obtain ⟨b, o, ha, _, _, e0, e1⟩ := (HP.out.no hkk).at_ hlt
      subst ha
      have hS : l.take (j + 1) = l.take j ++ [eth l j] := etake_snoc hlt
      have htl : (l.take j).length = j := by rw [List.length_take]; omega
      obtain ⟨L, hL⟩ : ∃ L, L = l.take j := ⟨_, rfl⟩
      rw [← hL] at HO hS htl
      obtain ⟨x, hx⟩ : ∃ x, x = eth l j := ⟨_, rfl⟩
      rw [← hx] at e0 e1 hS
      obtain ⟨nm, nd⟩ := x
      simp only at e0 e1
      have HS := Lib.hid hS
      have HTL := Lib.hid htl
      clear hx hS htl hL hkk
      go_wp2_with fail
      go_region_law (first
        | (refine step_append_e Tryd.underlying27 hi0 hz0 hz1 hz2 rfl _ (by rfl) (.tmp 11) (.tmp 23) (by rfl) w.heap.size (.slice va j vc) L (by rfl) (by first | exact HO.out.no (((Kept.refl NoB wr).drew).alloc _) | exact HO.out.no (((Kept.refl NoB wr).alloc _).drew) | exact HO.out.no (((Kept.refl NoB wr).drewN _).alloc _)) _ (nm, nd) (by rfl) (by first | exact heap_alloc_new _ _ | exact heap_alloc_new wr _) (by rw [HTL.out]; omega) (by have := HSZ.out; simp; omega) ?_; intro a3 c3 w3 hown3 hg3; rw [HTL.out] at hown3; rw [HTL.out]; have HO3 := Lib.hid hown3; have HK3 := Lib.hid (HK.out.trans (((show Kept NoB wr _ by first | exact ((Kept.refl NoB wr).drew).alloc _ | exact ((Kept.refl NoB wr).alloc _).drew | exact ((Kept.refl NoB wr).drewN _).alloc _).mono (T := fun b => some b = (Value.slice va j vc).ownBlock) (fun _ _ h => h.elim)).grown hg3 (fun b hb => .inl hb.symm)) (fun i hi h => by have := HO.out.row29 i h.symm; omega)); clear hown3 hg3))
      all_goals
        go_wp2
        go_roundw
        case rel => exact ⟨j + 1, a3, c3, by omega, by go_num, rfl, by rw [HS.out]; exact HO3.out, HK3.out⟩
        case measure => simp [RowKit.intOf]; omega
    · obtain rfl : j = l.length := by omega
      rw [List.take_length] at HO
      have HPO := Lib.hid HO.out.sl
      clear hkk
      go_wp2_with fail
      go_ret
      exact ⟨_, rfl, HPO.out, HK.out⟩
end Go.Proofs.YtokafgleejcbgaaDoor
