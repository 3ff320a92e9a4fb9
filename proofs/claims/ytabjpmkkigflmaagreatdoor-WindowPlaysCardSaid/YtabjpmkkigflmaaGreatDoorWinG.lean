/-
  Package window: Reach.
-/
import Derived.Test.YtabjpmkkigflmaaGreatDoorWinF
namespace Go.Proofs.YtabjpmkkigflmaaGreatDoor
open Go.RowKit
set_option linter.unusedVariables false
set_option linter.unusedSimpArgs false

/-- Nothing is held that need not be. -/
def Norm (x : Wn) : Prop := min x.done (x.en - 32) ≤ x.low
theorem norm_forget (x : Wn) : Norm (forgetW x) := by
  show min x.done (x.en - 32) ≤ lowW x
  unfold lowW
  omega
theorem norm_same {x : Wn} (h : Norm x) : forgetW x = x := by
  obtain ⟨lo, en, dn, l⟩ := x
  have h' : min dn (en - 32) ≤ lo := h
  show (⟨max lo (min dn (en - 32)), en, dn, l.drop (max lo (min dn (en - 32)) - lo)⟩ : Wn) = _
  rw [Nat.max_eq_left h', Nat.sub_self, List.drop_zero]
def ReachE (w : World) (S : Nat → Prop) (b : Nat) (x : Wn) (d : Nat) (e : Ending) (w' : World) : Prop :=
  ∃ a c, e = .returned (.slice a (outW x d).length c) ∧ UsAt w' (fun k => w.heap.size ≤ k) (.slice a (outW x d).length c) (outW x d) ∧ WinAt w' S b (reachW x d) ∧ Kept S w w'
theorem WinH.done {w w' : World} {S : Nat → Prop} {b : Nat} {x : Wn} {h : Value} {ps : List (Up × Value)} (H : WinH w S b x h ps) (D : Nat) : WinH (w.setCell ⟨b, 3, none⟩ (.int .u64 D)) S b ⟨x.low, x.en, D, x.l⟩ h ps := by
  have hk : Kept (fun i => i = b) w (w.setCell ⟨b, 3, none⟩ (.int .u64 D)) := (Kept.refl (fun i => i = b) w).setCell (p := ⟨b, 3, none⟩) (.inl rfl) _
  exact ⟨blkU_set H.blk 3 _, H.inb, H.held.kept hk (fun k hS h => hS.2 h), H.same, H.data.kept17 hk (fun k _ _ _ hS h => hS.2 h), fun k hS => Nat.lt_of_lt_of_le (H.bound k hS) hk.size⟩
set_option maxRecDepth 100000 in
set_option maxHeartbeats 2000000 in
theorem reach_in (w : World) (S : Nat → Prop) (b : Nat) (x : Wn) (H : WinAt w S b x) (ok : WnOk x) (nm : Norm x) (d : Nat) (hx : d ≤ x.en) : Calls Tryz.prog 22 #[pw b, .int .u64 d] w (ReachE w S b x d) := by
  obtain ⟨h, ps, H⟩ := H
  have HA := Lib.hid H
  obtain ⟨a, c, rfl, hc1, hc2, hc3, hrd, hpl⟩ := H.held.rd
  have hlen := H.len
  have hol := ok.len
  have htop := ok.top
  have hld := ok.ld
  have hde := ok.de
  obtain ⟨c0, c1, c2, c3⟩ := cells4w H.blk
  have hxi : ¬ (x.en : Int) < (d : Int) := by omega
  have hxN : ¬ x.en < d := by omega
  by_cases hle : d ≤ x.done
  · have hlei : (d : Int) ≤ (x.done : Int) := by omega
    have hdn : doneW x d = x.done := by unfold doneW; omega
    have hO : outW x d = [] := by
      unfold outW
      rw [hdn]
      exact List.eq_nil_of_length_eq_zero (by rw [betW_len ok hld (Nat.le_refl _) hde]; omega)
    have hR : reachW x d = x := by
      have : reachW x d = forgetW x := by unfold reachW; rw [hdn]
      rw [this, norm_same nm]
    unfold ReachE
    rw [hO, hR]
    clear hrd hc1 hc2 hc3 hO hR hdn H
    go_enter Tryz.func22, Tryz.ntmps22
    go_wp2
    go_ret
    exact ⟨none, 0, rfl, UsAt.nil _ _, ⟨_, ps, HA.out⟩, Kept.refl _ _⟩
  · have hlei : decide ((d : Int) ≤ (x.done : Int)) = false := decide_eq_false (by omega)
    have hleN : decide (d ≤ x.done) = false := decide_eq_false hle
    have hdn : doneW x d = d := by unfold doneW; omega
    have hO : outW x d = betW x x.done d := by unfold outW; rw [hdn]
    have hR : reachW x d = forgetW ⟨x.low, x.en, d, x.l⟩ := by unfold reachW; rw [hdn]
    have HOK2 := Lib.hid (hdn ▸ doneW_ok ok d)
    have HB : Hid (Calls Tryz.prog 81 #[pw b, .int .u64 x.done, .int .u64 d] w (BetE a (x.done - x.low) (d - x.low) w)) := Lib.hid (by
      have := between_any w b a ps.length c x.low (x.done - x.low) (d - x.low) _ _ H.blk (by omega) (by omega) hc2 (by omega)
      rw [show x.low + (x.done - x.low) = x.done by omega, show x.low + (d - x.low) = d by omega] at this
      exact this)
    have HP := Lib.hid (fun w' hk a' ha hn => WinH.part H ok hrd hpl (w' := w') hk x.done d (by omega) (by omega) (by omega) a' ha hn)
    have HBT := Lib.hid (fun w' v (hu : UsAt w' S v (betW x x.done d)) (hS : ∀ k, S k → k < w'.heap.size) => Copy_any17 w' v (betW x x.done d) S hu hS (betW_fit ok _ _) (by rw [betW_len ok hld (by omega) (by omega)]; have := ok.few; omega) (betW_small ok _ _))
    have HS := Lib.hid H.bound
    have hsub : d - x.low - (x.done - x.low) = d - x.done := by omega
    unfold ReachE
    rw [hO, hR]
    clear hO hR hrd hc1 hc2 hc3 hdn H
    go_enter Tryz.func22, Tryz.ntmps22
    go_wp2_with fail
    refine HB.out.mono ?_
    rintro e w1 ⟨a1, rfl, ha1, hn1, hk1⟩
    rw [hsub]
    have HU := Lib.hid (HP.out w1 hk1 a1 ha1 hn1)
    have HK1 := Lib.hid hk1
    clear hk1 ha1 hn1
    go_wp2_with fail
    refine (HBT.out w1 _ HU.out (fun k hk => Nat.lt_of_lt_of_le (HS.out k hk) HK1.out.size)).mono ?_
    intro e w2 h2
    obtain ⟨a2, n2, rfl, hu2, hk2⟩ := h2.us
    have HU2 := Lib.hid (hu2.mono (G := fun k => w.heap.size ≤ k) (fun k _ hk => Nat.le_trans HK1.out.size hk))
    have HK2 := Lib.hid (HK1.out.trans hk2 (fun _ _ h => h))
    have HW2 := Lib.hid (HA.out.no HK2.out)
    clear h2 hu2 hk2 c0 c1 c2 c3
    obtain ⟨c0, c1, c2, c3⟩ := cells4w HW2.out.blk
    have z2 := blkU_frozen HW2.out.blk
    have HFG := Lib.hid (forget_any (w2.setCell ⟨b, 3, none⟩ (.int .u64 d)) S b ⟨x.low, x.en, d, x.l⟩ ⟨_, ps, HW2.out.done (w' := w) d⟩ HOK2.out)
    have HKS : Hid (Kept S w (w2.setCell ⟨b, 3, none⟩ (.int .u64 d))) := Lib.hid ((HK2.out.mono (fun _ _ h => absurd h (fun h => h))).setCell (p := ⟨b, 3, none⟩) (.inl HA.out.inb) _)
    have HUS : Hid (UsAt (w2.setCell ⟨b, 3, none⟩ (.int .u64 d)) (fun k => w.heap.size ≤ k) (.slice a2 (betW x x.done d).length n2) (betW x x.done d)) := Lib.hid (HU2.out.kept ((Kept.refl (fun i => i = b) w2).setCell (p := ⟨b, 3, none⟩) (.inl rfl) _) (fun k hk h => by have h : k = b := h; have := HS.out b HA.out.inb; omega))
    go_wp2_with fail
    refine HFG.out.mono ?_
    rintro e w3 ⟨rfl, hw3, hk3⟩
    have HW3 := Lib.hid hw3
    have HK3 := Lib.hid (HKS.out.trans hk3 (fun _ _ h => h))
    have HU3 := Lib.hid (HUS.out.kept hk3 (fun k hk h => by have := HS.out k h; omega))
    clear hw3 hk3 c0 c1 c2 c3 z2
    go_wp2
    go_ret
    exact ⟨_, _, rfl, HU3.out, HW3.out, HK3.out⟩
set_option maxRecDepth 100000 in
set_option maxHeartbeats 2000000 in
theorem reach_out (w : World) (S : Nat → Prop) (b : Nat) (x : Wn) (H : WinAt w S b x) (ok : WnOk x) (nm : Norm x) (d : Nat) (hx : x.en < d) : Calls Tryz.prog 22 #[pw b, .int .u64 d] w (ReachE w S b x d) := by
  obtain ⟨h, ps, H⟩ := H
  have HA := Lib.hid H
  obtain ⟨a, c, rfl, hc1, hc2, hc3, hrd, hpl⟩ := H.held.rd
  have hlen := H.len
  have hol := ok.len
  have htop := ok.top
  have hld := ok.ld
  have hde := ok.de
  obtain ⟨c0, c1, c2, c3⟩ := cells4w H.blk
  have hxi : (x.en : Int) < (d : Int) := by omega
  by_cases hle : x.en ≤ x.done
  · have hlei : (x.en : Int) ≤ (x.done : Int) := by omega
    have hdn : doneW x d = x.done := by unfold doneW; omega
    have hO : outW x d = [] := by
      unfold outW
      rw [hdn]
      exact List.eq_nil_of_length_eq_zero (by rw [betW_len ok hld (Nat.le_refl _) hde]; omega)
    have hR : reachW x d = x := by
      have : reachW x d = forgetW x := by unfold reachW; rw [hdn]
      rw [this, norm_same nm]
    unfold ReachE
    rw [hO, hR]
    clear hrd hc1 hc2 hc3 hO hR hdn H
    go_enter Tryz.func22, Tryz.ntmps22
    go_wp2
    go_ret
    exact ⟨none, 0, rfl, UsAt.nil _ _, ⟨_, ps, HA.out⟩, Kept.refl _ _⟩
  · have hlei : decide ((x.en : Int) ≤ (x.done : Int)) = false := decide_eq_false (by omega)
    have hleN : decide (x.en ≤ x.done) = false := decide_eq_false hle
    have hdn : doneW x d = x.en := by unfold doneW; omega
    have hO : outW x d = betW x x.done x.en := by unfold outW; rw [hdn]
    have hR : reachW x d = forgetW ⟨x.low, x.en, x.en, x.l⟩ := by unfold reachW; rw [hdn]
    have HOK2 := Lib.hid (hdn ▸ doneW_ok ok d)
    have HB : Hid (Calls Tryz.prog 81 #[pw b, .int .u64 x.done, .int .u64 x.en] w (BetE a (x.done - x.low) (x.en - x.low) w)) := Lib.hid (by
      have := between_any w b a ps.length c x.low (x.done - x.low) (x.en - x.low) _ _ H.blk (by omega) (by omega) hc2 (by omega)
      rw [show x.low + (x.done - x.low) = x.done by omega, show x.low + (x.en - x.low) = x.en by omega] at this
      exact this)
    have HP := Lib.hid (fun w' hk a' ha hn => WinH.part H ok hrd hpl (w' := w') hk x.done x.en (by omega) (by omega) (by omega) a' ha hn)
    have HBT := Lib.hid (fun w' v (hu : UsAt w' S v (betW x x.done x.en)) (hS : ∀ k, S k → k < w'.heap.size) => Copy_any17 w' v (betW x x.done x.en) S hu hS (betW_fit ok _ _) (by rw [betW_len ok hld (by omega) (by omega)]; have := ok.few; omega) (betW_small ok _ _))
    have HS := Lib.hid H.bound
    have hsub : x.en - x.low - (x.done - x.low) = x.en - x.done := by omega
    unfold ReachE
    rw [hO, hR]
    clear hO hR hrd hc1 hc2 hc3 hdn H
    go_enter Tryz.func22, Tryz.ntmps22
    go_wp2_with fail
    refine HB.out.mono ?_
    rintro e w1 ⟨a1, rfl, ha1, hn1, hk1⟩
    rw [hsub]
    have HU := Lib.hid (HP.out w1 hk1 a1 ha1 hn1)
    have HK1 := Lib.hid hk1
    clear hk1 ha1 hn1
    go_wp2_with fail
    refine (HBT.out w1 _ HU.out (fun k hk => Nat.lt_of_lt_of_le (HS.out k hk) HK1.out.size)).mono ?_
    intro e w2 h2
    obtain ⟨a2, n2, rfl, hu2, hk2⟩ := h2.us
    have HU2 := Lib.hid (hu2.mono (G := fun k => w.heap.size ≤ k) (fun k _ hk => Nat.le_trans HK1.out.size hk))
    have HK2 := Lib.hid (HK1.out.trans hk2 (fun _ _ h => h))
    have HW2 := Lib.hid (HA.out.no HK2.out)
    clear h2 hu2 hk2 c0 c1 c2 c3
    obtain ⟨c0, c1, c2, c3⟩ := cells4w HW2.out.blk
    have z2 := blkU_frozen HW2.out.blk
    have HFG := Lib.hid (forget_any (w2.setCell ⟨b, 3, none⟩ (.int .u64 x.en)) S b ⟨x.low, x.en, x.en, x.l⟩ ⟨_, ps, HW2.out.done (w' := w) x.en⟩ HOK2.out)
    have HKS : Hid (Kept S w (w2.setCell ⟨b, 3, none⟩ (.int .u64 x.en))) := Lib.hid ((HK2.out.mono (fun _ _ h => absurd h (fun h => h))).setCell (p := ⟨b, 3, none⟩) (.inl HA.out.inb) _)
    have HUS : Hid (UsAt (w2.setCell ⟨b, 3, none⟩ (.int .u64 x.en)) (fun k => w.heap.size ≤ k) (.slice a2 (betW x x.done x.en).length n2) (betW x x.done x.en)) := Lib.hid (HU2.out.kept ((Kept.refl (fun i => i = b) w2).setCell (p := ⟨b, 3, none⟩) (.inl rfl) _) (fun k hk h => by have h : k = b := h; have := HS.out b HA.out.inb; omega))
    go_wp2_with fail
    refine HFG.out.mono ?_
    rintro e w3 ⟨rfl, hw3, hk3⟩
    have HW3 := Lib.hid hw3
    have HK3 := Lib.hid (HKS.out.trans hk3 (fun _ _ h => h))
    have HU3 := Lib.hid (HUS.out.kept hk3 (fun k hk h => by have := HS.out k h; omega))
    clear hw3 hk3 c0 c1 c2 c3 z2
    go_wp2
    go_ret
    exact ⟨_, _, rfl, HU3.out, HW3.out, HK3.out⟩
theorem WReach_any (w : World) (S : Nat → Prop) (b : Nat) (x : Wn) (H : WinAt w S b x) (ok : WnOk x) (nm : Norm x) (d : Nat) : Calls Tryz.prog 22 #[pw b, .int .u64 d] w (ReachE w S b x d) := by
  rcases Nat.lt_or_ge x.en d with h | h
  · exact reach_out w S b x H ok nm d h
  · exact reach_in w S b x H ok nm d h
end Go.Proofs.YtabjpmkkigflmaaGreatDoor
