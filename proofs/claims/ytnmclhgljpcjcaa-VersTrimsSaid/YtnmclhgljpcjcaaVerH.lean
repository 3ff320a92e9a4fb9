/-
  slices.Delete over a row of versions; package vers: Trim.
-/
import Derived.Test.YtnmclhgljpcjcaaVerG
import Derived.Lib.SliceRun
import Derived.ArgAppend
import Derived.Deep.RegionLaw
namespace Go.Proofs.Ytnmclhgljpcjcaa
open Go.RowKit
set_option linter.unusedVariables false

theorem heap_puts15 {g : Nat} {t : TypeId} {fr : Nat × Nat} : ∀ (vs : List Value) (o : Nat) (w : World) (cur : Array Value), w.heap[g]? = some (.cells cur t fr) → o + vs.length ≤ cur.size →
    ∃ cur', (w.setCells g o vs).heap[g]? = some (.cells cur' t fr) ∧ cur'.size = cur.size ∧ cur'.toList = cur.toList.take o ++ vs ++ cur.toList.drop (o + vs.length)
  | [], o, w, cur, h, hl => ⟨cur, h, rfl, by simp⟩
  | v :: vs, o, w, cur, h, hl => by
    simp only [List.length_cons] at hl
    obtain ⟨cur', h1, h2, h3⟩ := heap_puts15 vs (o + 1) (w.setCell ⟨g, o, none⟩ v) (cur.setIfInBounds o v) (blkV_set h o v) (by simp; omega)
    refine ⟨cur', h1, by simpa using h2, ?_⟩
    rw [h3, Array.toList_setIfInBounds]
    have hlt : o < cur.toList.length := by simp; omega
    have e1 : (cur.toList.set o v).take (o + 1) = cur.toList.take o ++ [v] := by
      rw [List.take_succ_eq_append_getElem (by simpa using hlt)]
      simp [List.take_set_of_le]
    rw [e1, List.drop_set_of_lt (by omega)]
    simp only [List.append_assoc, List.cons_append, List.nil_append, List.length_cons]
    rw [show o + 1 + vs.length = o + (vs.length + 1) by omega]
theorem kept_puts15 {S : Nat → Prop} {g : Nat} {a : World} (hS : S g ∨ a.heap.size ≤ g) : ∀ (vs : List Value) (o : Nat) (w : World), Kept S a w → Kept S a (w.setCells g o vs)
  | [], _, _, h => h
  | v :: vs, o, w, h => kept_puts15 hS vs (o + 1) _ (h.setCell (p := ⟨g, o, none⟩) hS v)
theorem zero_vers (w : World) : (zeroValue 43).run Try.prog w = .ok (.agg #[.int .u64 0, .int .u64 0, .slice none 0 0]) w := by kernel_rfl
/-- What clear writes. -/
def zer3 (n : Nat) : List Value := (Builtin.zeroCells #[.int .u64 0, .int .u64 0, .slice none 0 0] n).toList
theorem zer3_len (n : Nat) : (zer3 n).length = n * 3 := by unfold zer3; rw [Array.length_toList, size_zeroCells]; rfl
theorem zer3_one (n : Nat) : ∀ v ∈ zer3 n, v.oneCell' = true := by
  intro v hv
  unfold zer3 Builtin.zeroCells at hv
  rw [Array.mem_toList_iff, Array.mem_map] at hv
  obtain ⟨i, _, rfl⟩ := hv
  have h3 : i % 3 < 3 := Nat.mod_lt _ (by decide)
  show ((#[Value.int .u64 0, .int .u64 0, .slice none 0 0] : Array Value)[i % 3]!).oneCell' = true
  match i % 3, h3 with
  | 0, _ | 1, _ | 2, _ => rfl
theorem run_clear15 (w : World) (ty : TypeId) (b o n c : Nat) (hn : 0 < n) (hc : ∀ j, j < n * 3 → (w.cell? ⟨b, o + j, none⟩).isSome = true) (hf : ∀ j, j < n * 3 → w.frozen? ⟨b, o + j, none⟩ = false) :
    (Builtin.clear_ #[50] ty #[.slice (some ⟨b, o, none⟩) n c]).run Try.prog w = .ok (.tuple #[]) (w.setCells b o (zer3 n)) := by
  have hst := run_storeCells_cells (P := Try.prog) b o (zer3 n) 0 w (by rw [zer3_len]; simpa using hc) (by rw [zer3_len]; simpa using hf) (zer3_one n)
  simp only [Nat.add_zero] at hst
  unfold zer3 at hst ⊢
  obtain ⟨m, rfl⟩ : ∃ m, n = m + 1 := ⟨n - 1, by omega⟩
  have hz : ∀ w, (zeroValue 43).run Try.prog w = .ok (.agg #[.int .u64 0, .int .u64 0, .slice none 0 0]) w := zero_vers
  simp [Builtin.clear_, run_underlying Try.underlying50, hz, Value.cells, hst]
set_option maxRecDepth 100000 in
set_option maxHeartbeats 1000000 in
theorem VDelete_any (w : World) (r c k : Nat) (ps : List (Vn × Value)) (F : Nat → Prop) (hown : VOw 43 0 w (.slice (some ⟨r, 0, none⟩) ps.length c) ps) (hd : DatIn w F ps) (hk0 : 0 < k) (hk : k ≤ ps.length) (hl : ps.length ≤ 100000) :
    Calls Try.prog 76 #[.slice (some ⟨r, 0, none⟩) ps.length c, .int .i64 0, .int .i64 k] w fun e w' =>
      e = .returned (.slice (some ⟨r, 0, none⟩) (ps.length - k) c) ∧ VOw 43 0 w' (.slice (some ⟨r, 0, none⟩) (ps.length - k) c) (ps.drop k) ∧ Kept (fun i => i = r) w w' := by
  obtain ⟨i0, hi0, hz0, hz1, hz2⟩ := info_parts info_vers
  obtain ⟨cur, hr, hnc, hcm, hcs, htk⟩ : ∃ cur, w.heap[r]? = some (.cells cur 43 (0, 0)) ∧ ps.length ≤ c ∧ c ≤ maxLen ∧ cur.size = c * 3 ∧ cur.toList.take (ps.length * 3) = vcl ps := by
    rcases hown.2 with ⟨hv, _⟩ | ⟨g, cap, cur, hv, hb, hr, hc, hm, hs, ht⟩
    · cases hv
    · injection hv with hv hn hcap
      injection hv with hv
      injection hv with hv _ _
      subst hv hcap
      have hl2 : (vcl ps).length = ps.length * 3 := vcl_len ps
      exact ⟨cur, hr, hc, hm, hs, by rw [← hl2]; rw [hl2]; exact ht⟩
  have HD := Lib.hid hd
  obtain ⟨news, hnews⟩ : ∃ news, news = vcl (ps.drop k) := ⟨_, rfl⟩
  have hlen : news.length = (ps.length - k) * 3 := by rw [hnews, vcl_len, List.length_drop]
  have hcell : ∀ j, j < ps.length * 3 → w.cell? ⟨r, j, none⟩ = (vcl ps)[j]? := by
    intro j hj
    rw [cell_of_row _ _ _ _ _ _ hr, ← htk, List.getElem?_take, if_pos hj, Array.getElem?_toList]
  obtain ⟨A, hA, hsrc⟩ : ∃ A : Addr, (if c = k then some (⟨r, 0, none⟩ : Addr) else some ⟨r, k * 3, none⟩) = some A ∧ Hid (∀ t u, news[t]? = some u → w.drew.cell? (A.add t) = some u) := by
    by_cases h : c = k
    · refine ⟨⟨r, 0, none⟩, by simp [h], Lib.hid (fun t u hu => ?_)⟩
      have h0 : news.length = 0 := by rw [hlen]; omega
      rw [List.length_eq_zero_iff.1 h0] at hu
      simp at hu
    · refine ⟨⟨r, k * 3, none⟩, by simp [h], Lib.hid (fun t u hu => ?_)⟩
      have ht : t < (ps.length - k) * 3 := by
        have := (List.getElem?_eq_some_iff.1 hu).1
        rwa [hlen] at this
      rw [addr_add15]
      show w.cell? _ = _
      rw [hcell _ (by omega)]
      rw [hnews, vcl_drop, List.getElem?_drop] at hu
      exact hu
  have s1 : Hid (news.length = (ps.length - k) * 3) := Lib.hid hlen
  have s2 : Hid (∀ u ∈ news, u.oneCell' = true) := Lib.hid (by rw [hnews]; exact vcl_one (fun p hp => hd p (List.mem_of_mem_drop hp)))
  have s3 : Hid (∀ t, t < news.length → (w.drew.cell? ⟨r, 0 + 0 * 3 + t, none⟩).isSome = true ∧ w.drew.frozen? ⟨r, 0 + 0 * 3 + t, none⟩ = false) := Lib.hid (by
    intro t ht
    rw [hlen] at ht
    refine ⟨?_, blkV_frozen (w := w) hr _⟩
    show (w.cell? _).isSome = true
    rw [cell_of_row _ _ _ _ _ _ hr, Array.getElem?_eq_getElem (by omega)]
    rfl)
  obtain ⟨W1, hW1⟩ : ∃ W1, W1 = w.drew.setCells r (0 + 0 * 3) news := ⟨_, rfl⟩
  obtain ⟨cur1, h1, h2, h3⟩ := heap_puts15 (g := r) news 0 w.drew cur hr (by rw [hlen]; omega)
  have hW1h : W1.heap[r]? = some (.cells cur1 43 (0, 0)) := by rw [hW1]; exact h1
  have hcl : ∀ ty, (Builtin.clear_ #[50] ty #[.slice (some ⟨r, 0 + (ps.length - k) * 3, none⟩) (ps.length - (ps.length - k)) (c - (ps.length - k))]).run Try.prog W1 = .ok (.tuple #[]) (W1.setCells r (0 + (ps.length - k) * 3) (zer3 (ps.length - (ps.length - k)))) :=
    fun ty => run_clear15 W1 ty r _ _ _ (by omega) (fun j hj => by rw [cell_of_row _ _ _ _ _ _ hW1h, Array.getElem?_eq_getElem (by omega)]; rfl) (fun j hj => blkV_frozen hW1h _)
  obtain ⟨cur2, g1, g2, g3⟩ := heap_puts15 (g := r) (zer3 (ps.length - (ps.length - k))) (0 + (ps.length - k) * 3) W1 cur1 hW1h (by rw [zer3_len]; omega)
  have HFIN : Hid (VOw 43 0 (W1.setCells r (0 + (ps.length - k) * 3) (zer3 (ps.length - (ps.length - k)))) (.slice (some ⟨r, 0, none⟩) (ps.length - k) c) (ps.drop k)) := Lib.hid (by
    have hdl : (ps.drop k).length = ps.length - k := List.length_drop
    refine ⟨by rw [vcl_len], .inr ⟨r, c, cur2, by rw [hdl], Nat.zero_le _, g1, by rw [hdl]; omega, hcm, by omega, ?_⟩⟩
    have hc1 : cur1.toList.length = c * 3 := by rw [Array.length_toList, h2, hcs]
    rw [hdl, g3, List.append_assoc, List.take_append_of_le_length (by rw [List.length_take, hc1]; omega), List.take_of_length_le (by rw [List.length_take]; omega), h3, Nat.zero_add, Nat.zero_add]
    rw [List.take_zero, List.nil_append, List.take_append_of_le_length (by omega), List.take_of_length_le (by omega), hnews])
  have HKF : Hid (Kept (fun i => i = r) w (W1.setCells r (0 + (ps.length - k) * 3) (zer3 (ps.length - (ps.length - k))))) := Lib.hid (by
    refine kept_puts15 (S := fun i => i = r) (.inl (by show r = r; rfl)) _ _ _ ?_
    rw [hW1]
    exact kept_puts15 (S := fun i => i = r) (.inl (by show r = r; rfl)) _ _ _ (Kept.refl _ w).drew)
  have hW : Hid (W1 = w.drew.setCells r (0 + 0 * 3) news) := Lib.hid hW1
  have hm2 : c ≤ 9223372036854775807 := by unfold maxLen at hcm; exact hcm
  have hck : k ≤ c := by omega
  have kz : ((0 : Int) == (k : Int)) = false := by rw [beq_eq_false_iff_ne]; omega
  obtain ⟨n, hn⟩ : ∃ n, n = ps.length := ⟨_, rfl⟩
  rw [← hn] at hk hl hnc s1 hcl HFIN HKF ⊢
  have hkn1 : (k : Int) ≤ (n : Int) := by omega
  have hkn2 : (n : Int) ≤ (c : Int) := by omega
  have hnl : n - k ≤ c := by omega
  clear hown hd hr htk hcs hcell hlen hnews h1 h2 h3 hW1h g1 g2 g3 hn hW1
  go_enter Try.func76, Try.ntmps76
  go_wp2_with fail
  go_region_law (refine step_append_room rfl (.tmp 22) (.tmp 25) 50 rfl 43 i0 3 Try.underlying50 hi0 hz1 r 0 0 c (by simp [Act.eval, Act.put]) A (n - k) (c - k) news (by simp [Act.eval, Act.put]) s1.out hsrc.out s2.out (by omega) s3.out ?_; rw [← hW.out])
  have hz : 0 + (n - k) * 3 = (n - k) * 3 := by omega
  rw [hz] at hcl HFIN HKF
  clear hz hA
  go_wp2
  go_ret
  exact ⟨rfl, HFIN.out, HKF.out⟩
end Go.Proofs.Ytnmclhgljpcjcaa
