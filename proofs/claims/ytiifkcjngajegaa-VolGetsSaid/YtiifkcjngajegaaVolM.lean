/-
  Layer 30: patches that read the same are told to be the same.
-/
import Derived.Test.YtiifkcjngajegaaVolL
namespace Go.Proofs.Ytiifkcjngajegaa
open Go.RowKit
set_option linter.unusedVariables false

set_option maxRecDepth 100000 in
set_option maxHeartbeats 8000000 in
theorem Same30_true (v u : Value) (l : List Pt) (F G F' G' : Nat → Prop) (w : World) (h : PSl w F G v l) (k : PSl w F' G' u l) :
    Calls Try.prog 55 #[v, u] w fun e w' => e = .returned (.bool true) ∧ Kept NoB w w' := by
  obtain ⟨a, c, rfl, hmax⟩ := h.form
  obtain ⟨a2, c2, rfl, _⟩ := k.form
  unfold maxLen at hmax
  have HL := Lib.hid h
  have HM := Lib.hid k
  have g0 : ((l.length : Int) != (l.length : Int)) = false := bne_self_eq_false _
  clear h k
  go_enter Try.func55, Try.ntmps55
  go_wp2_with fail
  go_loopw [5] (fun i wr => ∃ k : Nat, k ≤ l.length ∧ i = .int .i64 k ∧ Kept NoB w wr) (fun i _ => l.length - (RowKit.intOf i).toNat)
  case atStart => exact ⟨0, Nat.zero_le _, rfl, Kept.refl _ _⟩
  case round =>
    obtain ⟨k, hk, rfl, hkk⟩ := hrel
    have HK := Lib.hid hkk
    by_cases hlt : k < l.length
    · have hk1 : (k : Int) < (l.length : Int) := by omega
      have hk0 : (0 : Int) ≤ (k : Int) := by omega
      obtain ⟨b1, o1, da1, dn1, dc1, ha1, _, _, e0, e1, e2, hn1, hd1⟩ := (HL.out.no hkk).at_ hlt
      obtain ⟨b2, o2, da2, dn2, dc2, ha2, _, _, f0, f1, f2, hn2, hd2⟩ := (HM.out.no hkk).at_ hlt
      subst ha1 ha2
      obtain ⟨x, hx⟩ : ∃ x, x = ptl l k := ⟨_, rfl⟩
      rw [← hx] at e0 e1 f0 f1 hd1 hd2
      obtain ⟨ky, vr, dd⟩ := x
      simp only at e0 e1 f0 f1 hd1 hd2
      have HD1 := Lib.hid hd1
      have HD2 := Lib.hid hd2
      have q1 : (ky != ky) = false := bne_self_eq_false ky
      have q2 : (vr != vr) = false := bne_self_eq_false vr
      have HKc := Lib.hid (Kept.refl NoB wr)
      clear hx hkk hd1 hd2 hn1 hn2
      go_wp2_with fail
      go_region_held3 (fun w' => w'.cell? ⟨b1, o1 + k * 3, none⟩ = some (.int .u32 ky) ∧ w'.cell? ⟨b1, o1 + k * 3 + 1, none⟩ = some (.int .u64 vr) ∧ w'.cell? ⟨b1, o1 + k * 3 + 1 + 1, none⟩ = some (.slice da1 dn1 dc1) ∧ w'.cell? ⟨b2, o2 + k * 3, none⟩ = some (.int .u32 ky) ∧ w'.cell? ⟨b2, o2 + k * 3 + 1, none⟩ = some (.int .u64 vr) ∧ w'.cell? ⟨b2, o2 + k * 3 + 1 + 1, none⟩ = some (.slice da2 dn2 dc2))
        (first
          | exact ⟨cell_drew e0, cell_drew e1, cell_drew e2, cell_drew f0, cell_drew f1, cell_drew f2⟩
          | exact ⟨HKc.out.cell (p := ⟨b1, o1 + k * 3, none⟩) (fun h => h) e0, HKc.out.cell (p := ⟨b1, o1 + k * 3 + 1, none⟩) (fun h => h) e1, HKc.out.cell (p := ⟨b1, o1 + k * 3 + 1 + 1, none⟩) (fun h => h) e2, HKc.out.cell (p := ⟨b2, o2 + k * 3, none⟩) (fun h => h) f0, HKc.out.cell (p := ⟨b2, o2 + k * 3 + 1, none⟩) (fun h => h) f1, HKc.out.cell (p := ⟨b2, o2 + k * 3 + 1 + 1, none⟩) (fun h => h) f2⟩
          | go_keep)
        (first
          | (go_at_call 13; refine (Same_any _ _ dd dd _ _ _ (by first | exact HD1.out.kept HKc.out (fun _ _ h => h) | exact HD1.out.kept HKc.out.drew (fun _ _ h => h)) (by first | exact HD2.out.kept HKc.out (fun _ _ h => h) | exact HD2.out.kept HKc.out.drew (fun _ _ h => h))).mono ?_; rw [decide_eq_true rfl]; rintro e w4 ⟨rfl, hk4⟩; replace HKc := Lib.hid (by first | exact HKc.out.trans hk4 (fun _ _ h => h) | exact HKc.out.drew.trans hk4 (fun _ _ h => h)); clear hk4))
      all_goals
        go_wp2
        go_roundw
        case rel => exact ⟨k + 1, by omega, by go_num, by first | exact HK.out.trans HKc.out (fun _ _ h => h) | exact HK.out.trans HKc.out.drew (fun _ _ h => h)⟩
        case measure => simp [RowKit.intOf]; omega
    · obtain rfl : k = l.length := by omega
      go_wp2_with fail
      go_ret
      exact ⟨rfl, HK.out⟩
set_option maxRecDepth 100000 in
set_option maxHeartbeats 8000000 in
theorem like30_true (v u : Value) (l : List Pt) (F G F' G' : Nat → Prop) (w : World) (h : PSl w F G v l) (k : PSl w F' G' u l) (hl : l.length ≤ 1000) :
    Calls Try.prog 29 #[v, u] w fun e w' => e = .returned (.bool true) ∧ Kept NoB w w' := by
  obtain ⟨i0, hi0, hz0, hz1, hz2⟩ := info_parts info_rp
  obtain ⟨ps, hps, hdt⟩ := h
  obtain ⟨a, c, rfl, _⟩ := id hps
  obtain ⟨a2, c2, rfl, _⟩ := k.form
  have hpl := hdt.1
  have HP := Lib.hid hps
  have HDT := Lib.hid hdt
  have HM := Lib.hid k
  have hpl2 : ps.length ≤ 1000 := by omega
  have HPL := Lib.hid hpl
  clear hps hdt k hpl
  go_enter Try.func29, Try.ntmps29
  go_wp2_with fail
  go_loopw [5, 6] (fun o i wr => ∃ (j : Nat) (va : Option Addr) (vc : Nat), j ≤ ps.length ∧ i = .int .i64 j ∧ o = .slice va j vc ∧ POwn 100 w.heap.size wr (.slice va j vc) (ps.take j) ∧ Kept NoB w wr) (fun _ i _ => ps.length - (RowKit.intOf i).toNat)
  case atStart => exact ⟨0, none, 0, Nat.zero_le _, rfl, rfl, World.ownsRow_nil _ _ _ _, Kept.refl _ _⟩
  case round =>
    obtain ⟨j, va, vc, hj, rfl, rfl, hown, hkk⟩ := hrel
    have HO := Lib.hid hown
    have HK := Lib.hid hkk
    have HSZ := Lib.hid hkk.size
    clear hown
    by_cases hlt : j < ps.length
    · have hj1 : (j : Int) < (ps.length : Int) := by omega
      have hj0 : (0 : Int) ≤ (j : Int) := by omega
      obtain ⟨b, o, ha, _, _, e0, e1, e2⟩ := (HP.out.no hkk).at_ hlt
      subst ha
      have hS : ps.take (j + 1) = ps.take j ++ [pth ps j] := by rw [pth_eq hlt]; exact List.take_succ_eq_append_getElem hlt
      have htl : (ps.take j).length = j := by rw [List.length_take]; omega
      obtain ⟨L, hL⟩ : ∃ L, L = ps.take j := ⟨_, rfl⟩
      rw [← hL] at HO hS htl
      obtain ⟨x, hx⟩ : ∃ x, x = pth ps j := ⟨_, rfl⟩
      rw [← hx] at e0 e1 e2 hS
      obtain ⟨ky, vr, ua, un, uc⟩ := x
      simp only at e0 e1 e2
      have HS := Lib.hid hS
      have HTL := Lib.hid htl
      clear hx hS htl hL hkk
      go_wp2_with fail
      go_region_law (first
        | (refine step_append_p Try.underlying53 hi0 hz0 hz1 hz2 rfl _ (by rfl) (.tmp 13) (.tmp 30) (by rfl) w.heap.size (.slice va j vc) L (by rfl) (by first | exact HO.out.no (((Kept.refl NoB wr).drew).alloc _) | exact HO.out.no (((Kept.refl NoB wr).alloc _).drew) | exact HO.out.no (((Kept.refl NoB wr).drewN _).alloc _)) _ (ky, vr, ua, un, uc) (by rfl) (by first | exact heap_alloc_new _ _ | exact heap_alloc_new wr _) (by rw [HTL.out]; omega) (by have := HSZ.out; simp; omega) ?_; intro a3 c3 w3 hown3 hg3; rw [HTL.out] at hown3; rw [HTL.out]; have HO3 := Lib.hid hown3; have HK3 := Lib.hid (HK.out.trans (((show Kept NoB wr _ by first | exact ((Kept.refl NoB wr).drew).alloc _ | exact ((Kept.refl NoB wr).alloc _).drew | exact ((Kept.refl NoB wr).drewN _).alloc _).mono (T := fun b => some b = (Value.slice va j vc).ownBlock) (fun _ _ h => h.elim)).grown hg3 (fun b hb => .inl hb.symm)) (fun i hi hx => absurd (World.ownsRow.lt HO.out i hx.symm).1 (by omega))); clear hown3 hg3))
      all_goals
        go_wp2
        go_roundw
        case rel => exact ⟨j + 1, a3, c3, by omega, by go_num, rfl, by rw [HS.out]; exact HO3.out, HK3.out⟩
        case measure => simp [RowKit.intOf]; omega
    · obtain rfl : j = ps.length := by omega
      rw [List.take_length] at HO
      have HPO := Lib.hid (show PSl wr (fun i => w.heap.size ≤ i) G (.slice va ps.length vc) l from ⟨ps, HO.out.sl, HDT.out.kept hkk (fun _ _ h => h)⟩)
      have HS2 := Lib.hid (Same30_true _ _ l _ _ _ _ wr HPO.out (HM.out.no hkk))
      clear hkk
      go_wp2_with (go_at_call 55; refine HS2.out.mono ?_; rintro e w4 ⟨rfl, hk4⟩; have HK4 := Lib.hid (HK.out.trans hk4 (fun _ _ h => h)); clear hk4)
      go_ret
      exact ⟨rfl, HK4.out⟩
end Go.Proofs.Ytiifkcjngajegaa
