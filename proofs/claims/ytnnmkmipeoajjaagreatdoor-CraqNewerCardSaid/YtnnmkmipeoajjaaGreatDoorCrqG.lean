/-
  slices.Delete of one read, and Clone.
-/
import Derived.Test.YtnnmkmipeoajjaaGreatDoorCrqF
import Derived.ArgAppend
import Derived.Deep.RegionLaw
namespace Go.Proofs.YtnnmkmipeoajjaaGreatDoor
open Go.RowKit
set_option linter.unusedVariables false
set_option linter.unusedSimpArgs false

theorem RqOw.row {e : TypeId} {B : Nat} {w : World} {a : Option Addr} {m c : Nat} {L : List Rq} (h : RqOw e B w (.slice a m c) L) (hm : m = L.length) (hp : 0 < m) :
    ∃ r cur, a = some ⟨r, 0, none⟩ ∧ B ≤ r ∧ w.heap[r]? = some (.cells cur e (0, 0)) ∧ m ≤ c ∧ c ≤ maxLen ∧ cur.size = c * 4 ∧ cur.toList.take (m * 4) = rql L := by
  subst hm
  rcases h.2 with ⟨hv, h0⟩ | ⟨r, cap, cur, hv, hB, hr, h1, h2, h3, h4⟩
  · omega
  · injection hv with hv1 hv2 hv3
    subst hv1 hv3
    exact ⟨r, cur, rfl, hB, hr, h1, h2, h3, h4⟩
set_option maxRecDepth 100000 in
set_option maxHeartbeats 1000000 in
theorem DelR_any (w : World) (r c k m : Nat) (L : List Rq) (B : Nat) (hown : RqOw 33 B w (.slice (some ⟨r, 0, none⟩) m c) L) (hm : m = L.length) (hk : k < m) (hl : m ≤ 1000) :
    Calls Tryz.prog 79 #[.slice (some ⟨r, 0, none⟩) m c, .int .i64 k, .int .i64 ((k : Int) + 1)] w fun e w' =>
      e = .returned (.slice (some ⟨r, 0, none⟩) (m - 1) c) ∧ RqOw 33 B w' (.slice (some ⟨r, 0, none⟩) (m - 1) c) (L.take k ++ L.drop (k + 1)) ∧ Kept (fun i => i = r) w w' := by
  obtain ⟨i0, hi0, hz0, hz1, hz2⟩ := info_parts info_rq22
  obtain ⟨r', cur, hre, hBr, hr, hnc, hcm, hcs, htk⟩ := hown.row hm (by omega)
  injection hre with hre
  injection hre with hre _ _
  subst hre
  obtain ⟨news, hnews⟩ : ∃ news, news = rql (L.drop (k + 1)) := ⟨_, rfl⟩
  have hlen : news.length = (m - (k + 1)) * 4 := by rw [hnews, rql_len, List.length_drop, hm]
  have hcell : ∀ j, j < m * 4 → w.cell? ⟨r, j, none⟩ = (rql L)[j]? := by
    intro j hj
    rw [cell_of_row _ _ _ _ _ _ hr, ← htk, List.getElem?_take, if_pos hj, Array.getElem?_toList]
  obtain ⟨A, hA, hsrc⟩ : ∃ A : Addr, (if c = k + 1 then some (⟨r, 0, none⟩ : Addr) else some ⟨r, (k + 1) * 4, none⟩) = some A ∧ Hid (∀ t u, news[t]? = some u → w.drew.cell? (A.add t) = some u) := by
    by_cases h : c = k + 1
    · refine ⟨⟨r, 0, none⟩, by simp [h], Lib.hid (fun t u hu => ?_)⟩
      have h0 : news.length = 0 := by rw [hlen]; omega
      rw [List.length_eq_zero_iff.1 h0] at hu
      simp at hu
    · refine ⟨⟨r, (k + 1) * 4, none⟩, by simp [h], Lib.hid (fun t u hu => ?_)⟩
      have ht : t < (m - (k + 1)) * 4 := by
        have := (List.getElem?_eq_some_iff.1 hu).1
        rwa [hlen] at this
      rw [addr_add15]
      show w.cell? _ = _
      rw [hcell _ (by omega)]
      rw [hnews, rql_drop, List.getElem?_drop] at hu
      exact hu
  have s1 : Hid (news.length = (m - (k + 1)) * 4) := Lib.hid hlen
  have s2 : Hid (∀ u ∈ news, u.oneCell' = true) := Lib.hid (by rw [hnews]; exact rql_one _)
  have s3 : Hid (∀ t, t < news.length → (w.drew.cell? ⟨r, 0 + k * 4 + t, none⟩).isSome = true ∧ w.drew.frozen? ⟨r, 0 + k * 4 + t, none⟩ = false) := Lib.hid (by
    intro t ht
    rw [hlen] at ht
    refine ⟨?_, blkV_frozen (w := w) hr _⟩
    show (w.cell? _).isSome = true
    rw [cell_of_row _ _ _ _ _ _ hr, Array.getElem?_eq_getElem (by omega)]
    rfl)
  obtain ⟨W1, hW1⟩ : ∃ W1, W1 = w.drew.setCells r (0 + k * 4) news := ⟨_, rfl⟩
  obtain ⟨cur1, h1, h2, h3⟩ := heap_puts15 (g := r) news (0 + k * 4) w.drew cur hr (by rw [hlen]; omega)
  have hW1h : W1.heap[r]? = some (.cells cur1 33 (0, 0)) := by rw [hW1]; exact h1
  have hcl : ∀ ty, (Builtin.clear_ #[46] ty #[.slice (some ⟨r, (m - 1) * 4, none⟩) (m - (m - 1)) (c - (m - 1))]).run Tryz.prog W1 = .ok (.tuple #[]) (W1.setCells r ((m - 1) * 4) (zer4 (m - (m - 1)))) :=
    fun ty => run_clear22 W1 ty r _ _ _ (by omega) (fun j hj => by rw [cell_of_row _ _ _ _ _ _ hW1h, Array.getElem?_eq_getElem (by omega)]; rfl) (fun j hj => blkV_frozen hW1h _)
  obtain ⟨cur2, g1, g2, g3⟩ := heap_puts15 (g := r) (zer4 (m - (m - 1))) ((m - 1) * 4) W1 cur1 hW1h (by rw [zer4_len]; omega)
  have HFIN : Hid (RqOw 33 B (W1.setCells r ((m - 1) * 4) (zer4 (m - (m - 1)))) (.slice (some ⟨r, 0, none⟩) (m - 1) c) (L.take k ++ L.drop (k + 1))) := Lib.hid (by
    have hdl : (L.take k ++ L.drop (k + 1)).length = m - 1 := by rw [List.length_append, List.length_take, List.length_drop]; omega
    refine ⟨by rw [rql_len], .inr ⟨r, c, cur2, by rw [hdl], hBr, g1, by rw [hdl]; omega, hcm, by omega, ?_⟩⟩
    have hc0 : cur.toList.length = c * 4 := by rw [Array.length_toList, hcs]
    have hc1 : cur1.toList.length = c * 4 := by rw [Array.length_toList, h2, hcs]
    rw [hdl, g3, List.append_assoc, List.take_append_of_le_length (by rw [List.length_take, hc1]; omega), List.take_of_length_le (by rw [List.length_take]; omega), h3, Nat.zero_add]
    rw [List.append_assoc, show (m - 1) * 4 = k * 4 + (m - (k + 1)) * 4 by omega, take_mid (by rw [List.length_take, hc0]; omega) hlen, hnews, rql_app, rql_take, ← htk, List.take_take, Nat.min_eq_left (by omega)])
  have HKF : Hid (Kept (fun i => i = r) w (W1.setCells r ((m - 1) * 4) (zer4 (m - (m - 1))))) := Lib.hid (by
    refine kept_puts15 (S := fun i => i = r) (.inl (by show r = r; rfl)) _ _ _ ?_
    rw [hW1]
    exact kept_puts15 (S := fun i => i = r) (.inl (by show r = r; rfl)) _ _ _ (Kept.refl _ w).drew)
  have hW : Hid (W1 = w.drew.setCells r (0 + k * 4) news) := Lib.hid hW1
  have hm2 : c ≤ 9223372036854775807 := by unfold maxLen at hcm; exact hcm
  have kz : ((k : Int) == (k : Int) + 1) = false := by rw [beq_eq_false_iff_ne]; omega
  have hk1 : (k : Int) + 1 ≤ (m : Int) := by omega
  have hk2 : (m : Int) ≤ (c : Int) := by omega
  have hkp : (0 : Int) ≤ (k : Int) + 1 := by omega
  have hk3 : k + 1 ≤ m := by omega
  have hk4 : k ≤ c := by omega
  have hk5 : (k : Int) ≤ (m : Int) := by omega
  have hk6 : k + 1 ≤ c := by omega
  have hk7 : k + (m - (k + 1)) = m - 1 := by omega
  have hk8 : ¬ c = m - 1 := by omega
  have hk9 : m - 1 ≤ m := by omega
  have hk0 : 1 ≤ m := by omega
  clear hown hr htk hcs hcell hlen hnews h1 h2 h3 hW1h g1 g2 g3 hW1 hm
  go_enter Tryz.func79, Tryz.ntmps79
  go_wp2_with fail
  go_region_law (refine step_append_room rfl (.tmp 22) (.tmp 25) 46 rfl 33 i0 4 Tryz.underlying46 hi0 hz1 r 0 k c (by simp [Act.eval, Act.put]) A (m - (k + 1)) (c - (k + 1)) news (by simp [Act.eval, Act.put]) s1.out hsrc.out s2.out (by omega) s3.out ?_; rw [← hW.out])
  go_wp2
  go_ret
  exact ⟨rfl, HFIN.out, HKF.out⟩
end Go.Proofs.YtnnmkmipeoajjaaGreatDoor
