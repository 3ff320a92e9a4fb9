/-
  Rows in place: cells stored one behind the other; clear; slices.Delete of one item; Take, Twice, Set of a bag; the page's example.
-/
import Derived.Test.YteinjmhogkneoaaBagB
import Derived.Laws.IdiomCopy
import Derived.Laws.OwnMore
import Derived.Deep.MidRow
namespace Go.Proofs.Yteinjmhogkneoaa
open Go.RowKit
set_option linter.unusedVariables false

theorem heap_setCells {g : Nat} {t : TypeId} {fr : Nat × Nat} : ∀ (vs : List Value) (o : Nat) (w : World) (cur : Array Value), w.heap[g]? = some (.cells cur t fr) → o + vs.length ≤ cur.size →
    ∃ cur', (w.setCells g o vs).heap[g]? = some (.cells cur' t fr) ∧ cur'.size = cur.size ∧ cur'.toList = cur.toList.take o ++ vs ++ cur.toList.drop (o + vs.length)
  | [], o, w, cur, h, hl => ⟨cur, h, rfl, by simp⟩
  | v :: vs, o, w, cur, h, hl => by
    simp only [List.length_cons] at hl
    obtain ⟨cur', h1, h2, h3⟩ := heap_setCells vs (o + 1) (w.setCell ⟨g, o, none⟩ v) (cur.setIfInBounds o v) (blk_set h o v) (by simp; omega)
    refine ⟨cur', h1, by simpa using h2, ?_⟩
    rw [h3, Array.toList_setIfInBounds]
    have hlt : o < cur.toList.length := by simp; omega
    have e1 : (cur.toList.set o v).take (o + 1) = cur.toList.take o ++ [v] := by
      rw [List.take_succ_eq_append_getElem (by simpa using hlt)]
      simp [List.take_set_of_le]
    rw [e1, List.drop_set_of_lt (by omega)]
    simp only [List.append_assoc, List.cons_append, List.nil_append, List.length_cons]
    rw [show o + 1 + vs.length = o + (vs.length + 1) by omega]
theorem kept_setCells {S : Nat → Prop} {g : Nat} {a : World} (hS : S g ∨ a.heap.size ≤ g) : ∀ (vs : List Value) (o : Nat) (w : World), Kept S a w → Kept S a (w.setCells g o vs)
  | [], _, _, h => h
  | v :: vs, o, w, h => kept_setCells hS vs (o + 1) _ (h.setCell (p := ⟨g, o, none⟩) hS v)

/-- clear, at elements of two cells. -/
theorem run_clear_two {P : Program} (w : World) (t e ty : TypeId) (ht : P.underlying t = some (.slice e)) (z : Value) (hv : ∀ w, (zeroValue e).run P w = .ok z w) (z0 z1 : Value) (hz : z.cells = #[z0, z1]) (h0 : z0.oneCell' = true) (h1 : z1.oneCell' = true)
    (b off n c : Nat) (hc : ∀ j, j < (n + 1) * 2 → (w.cell? ⟨b, off + j, none⟩).isSome = true) (hf : ∀ j, j < (n + 1) * 2 → w.frozen? ⟨b, off + j, none⟩ = false) :
    ∃ zs : List Value, zs.length = (n + 1) * 2 ∧ (Builtin.clear_ #[t] ty #[.slice (some ⟨b, off, none⟩) (n + 1) c]).run P w = .ok (.tuple #[]) (w.setCells b off zs) := by
  have hlen : (Builtin.zeroCells z.cells (n + 1)).toList.length = (n + 1) * 2 := by rw [hz]; simp [Builtin.zeroCells]
  have hone : ∀ v ∈ (Builtin.zeroCells z.cells (n + 1)).toList, v.oneCell' = true := by
    intro v hv
    rw [hz] at hv
    simp only [Builtin.zeroCells, Array.mem_toList_iff, Array.mem_map] at hv
    obtain ⟨i, _, rfl⟩ := hv
    have : i % 2 = 0 ∨ i % 2 = 1 := by omega
    rcases this with h | h
    · rw [show i % (#[z0, z1] : Array Value).size = 0 from h]; exact h0
    · rw [show i % (#[z0, z1] : Array Value).size = 1 from h]; exact h1
  have hst := run_storeCells_cells (P := P) b off (Builtin.zeroCells z.cells (n + 1)).toList 0 w (by simpa [hlen] using hc) (by simpa [hlen] using hf) hone
  simp only [Nat.add_zero] at hst
  exact ⟨_, hlen, by simp [Builtin.clear_, run_underlying ht, hv, hst]⟩

/-- The row without item i, plainly. -/
theorem cel_erase (l : List It) (i : Nat) (h : i < l.length) : cel (l.eraseIdx i) = cel (l.take i) ++ cel (l.drop (i + 1)) := by
  rw [List.eraseIdx_eq_take_drop_succ, cel_app]
theorem cel_take (l : List It) (i : Nat) : cel (l.take i) = (cel l).take (i * 2) := by
  induction l generalizing i with
  | nil => simp [cel]
  | cons x l ih =>
    cases i with
    | zero => simp [cel]
    | succ i => rw [List.take_succ_cons, cel_cons, cel_cons, ih, show (i + 1) * 2 = i * 2 + 1 + 1 by omega, List.take_succ_cons, List.take_succ_cons]
theorem cel_drop (l : List It) (i : Nat) : cel (l.drop i) = (cel l).drop (i * 2) := by
  induction l generalizing i with
  | nil => simp [cel]
  | cons x l ih =>
    cases i with
    | zero => simp [cel]
    | succ i => rw [List.drop_succ_cons, cel_cons, ih, show (i + 1) * 2 = i * 2 + 1 + 1 by omega, List.drop_succ_cons, List.drop_succ_cons]
theorem cel_one (l : List It) : ∀ u ∈ cel l, u.oneCell' = true := by
  intro u hu
  simp only [cel, List.mem_flatMap] at hu
  obtain ⟨x, _, hx⟩ := hu
  simp only [List.mem_cons, List.not_mem_nil, or_false] at hx
  rcases hx with rfl | rfl <;> rfl

set_option maxRecDepth 100000 in
set_option maxHeartbeats 1000000 in
/-- slices.Delete of one item: i items stand ahead of it, m behind it, k more would fit. -/
theorem Delete_aux (B r i m k : Nat) (l : List It) (w : World) (hlen : l.length = i + 1 + m) (hown : w.ownsRow B 66 2 (.slice (some ⟨r, 0, none⟩) (i + 1 + m) (i + 1 + m + k)) (i + 1 + m) (cel l)) (hl : i + 1 + m ≤ 100000) (hcm : i + 1 + m + k ≤ 9223372036854775807) :
    Calls Try.prog 31 #[.slice (some ⟨r, 0, none⟩) (i + 1 + m) (i + 1 + m + k), .int .i64 i, .int .i64 ((i : Int) + 1)] w fun e w' =>
      e = .returned (.slice (some ⟨r, 0, none⟩) (i + m) (i + 1 + m + k)) ∧ ∃ zs : List Value, zs.length = 2 ∧ w' = (w.drew.setCells r (i * 2) (cel (l.drop (i + 1)))).setCells r ((i + m) * 2) zs := by
  obtain ⟨i0, hi0, hz0, hz1, hz2⟩ := info_parts Try.info66
  have hm : (cel (l.drop (i + 1))).length = m * 2 := by rw [cel_len, List.length_drop]; omega
  have hcl : (cel l).length = (i + 1 + m) * 2 := by rw [cel_len, hlen]
  have hsome : ∀ j, j < (i + 1 + m) * 2 → (w.cell? ⟨r, j, none⟩).isSome = true := by
    intro j hj
    rw [hown.cellAt _ hj, List.getElem?_eq_getElem (by omega)]
    rfl
  have hnews : ∀ j u, (cel (l.drop (i + 1)))[j]? = some u → w.cell? ((⟨r, (i + 1) * 2, none⟩ : Addr).add j) = some u := by
    intro j u hu
    have hj : j < (cel (l.drop (i + 1))).length := by
      rcases Nat.lt_or_ge j (cel (l.drop (i + 1))).length with h | h
      · exact h
      · rw [List.getElem?_eq_none h] at hu; cases hu
    rw [cel_drop, List.getElem?_drop] at hu
    have hadd : (⟨r, (i + 1) * 2, none⟩ : Addr).add j = ⟨r, (i + 1) * 2 + j, none⟩ := by unfold Addr.add; split <;> simp_all
    rw [hadd, hown.cellAt _ (by omega)]
    exact hu
  have hspare : ∀ j, j < (cel (l.drop (i + 1))).length → (w.cell? ⟨r, 0 + i * 2 + j, none⟩).isSome = true ∧ w.frozen? ⟨r, 0 + i * 2 + j, none⟩ = false :=
    fun j hj => ⟨hsome _ (by omega), hown.frozenAt _⟩
  have hclr : ∀ j, j < (0 + 1) * 2 → ((w.drew.setCells r (i * 2) (cel (l.drop (i + 1)))).cell? ⟨r, (i + m) * 2 + j, none⟩).isSome = true :=
    fun j hj => World.isSome_setCells _ _ _ _ _ (hsome _ (by omega))
  have hclf : ∀ j, j < (0 + 1) * 2 → (w.drew.setCells r (i * 2) (cel (l.drop (i + 1)))).frozen? ⟨r, (i + m) * 2 + j, none⟩ = false :=
    fun j hj => (World.frozen?_setCells _ _ _ _ _).trans (hown.frozenAt _)
  obtain ⟨news, hnw⟩ : ∃ news, news = cel (l.drop (i + 1)) := ⟨_, rfl⟩
  have hone : ∀ u ∈ news, u.oneCell' = true := by rw [hnw]; exact cel_one _
  rw [← hnw] at hnews hspare hm hclr hclf ⊢
  have HN := Lib.hid hnews
  have HS := Lib.hid hspare
  have HM := Lib.hid hm
  have HC := Lib.hid hclr
  have HF := Lib.hid hclf
  have HO := Lib.hid hone
  have hwr : IntKind.i64.wrap ((i : Int) + 1) = (i : Int) + 1 := IntWalk.i64_in _ (by omega)
  have hii : (i : Int) ≤ (i : Int) + 1 := by omega
  have hi1 : (0 : Int) ≤ (i : Int) + 1 := by omega
  have hi2 : (i : Int) + 1 ≤ (i : Int) + 1 + (m : Int) := by omega
  have hi3 : (i : Int) ≤ (i : Int) + 1 + (m : Int) + (k : Int) := by omega
  have hi4 : (i : Int) + 1 + (m : Int) ≤ (i : Int) + 1 + (m : Int) + (k : Int) := by omega
  have e1 : i + 1 + m - (i + m) = 1 := by omega
  have e2 : (i : Int) + (m : Int) ≤ (i : Int) + 1 + (m : Int) := by omega
  clear hnews hspare hm hclr hclf hone hnw hown hcl hsome hlen
  by_cases hcap : m + k = 0
  · obtain rfl : m = 0 := by omega
    obtain rfl : k = 0 := by omega
    have hn0 : news = [] := List.eq_nil_of_length_eq_zero (by rw [HM.out])
    subst hn0
    clear hcap
    obtain ⟨zs, hzs, hclr⟩ := run_clear_two (P := Try.prog) (w.drew.setCells r (i * 2) []) 50 66 0 Try.underlying50 _ (fun w => Try.zeroValue66 w) _ _ rfl rfl rfl r (i * 2) 0 1 HC.out HF.out
    have HZ := Lib.hid hzs
    clear hzs
    go_enter Try.func31, Try.ntmps31
    go_wp2
    go_region_law (refine step_append_room (by rfl) (.tmp 22) (.tmp 25) 50 (by rfl) 66 i0 2 Try.underlying50 hi0 hz1 r 0 i (i + 1) (by simp [Act.eval, Act.put]) ⟨r, 0, none⟩ 0 0 [] (by simp [Act.eval, Act.put]) (by rfl) (by simp) (by simp) (by omega) (by simp) ?_)
    all_goals go_wp2
    all_goals go_ret
    all_goals exact ⟨rfl, zs, HZ.out, rfl⟩
  · have hc' : ¬ (i + 1 + m + k = i + 1) := by omega
    obtain ⟨zs, hzs, hclr⟩ := run_clear_two (P := Try.prog) (w.drew.setCells r (i * 2) news) 50 66 0 Try.underlying50 _ (fun w => Try.zeroValue66 w) _ _ rfl rfl rfl r ((i + m) * 2) 0 (i + 1 + m + k - (i + m)) HC.out HF.out
    have HZ := Lib.hid hzs
    clear hzs
    go_enter Try.func31, Try.ntmps31
    go_wp2
    go_region_law (refine step_append_room (by rfl) (.tmp 22) (.tmp 25) 50 (by rfl) 66 i0 2 Try.underlying50 hi0 hz1 r 0 i (i + 1 + m + k) (by simp [Act.eval, Act.put]) ⟨r, (i + 1) * 2, none⟩ m _ news (by simp [Act.eval, Act.put]; try rfl) HM.out HN.out HO.out (by omega) HS.out ?_)
    all_goals go_wp2
    all_goals go_ret
    all_goals exact ⟨rfl, zs, HZ.out, rfl⟩
/-- slices.Delete of one item, told of the row. -/
theorem Delete_any (B r c i : Nat) (l : List It) (w : World) (hown : w.ownsRow B 66 2 (.slice (some ⟨r, 0, none⟩) l.length c) l.length (cel l)) (hi : i < l.length) (hl : l.length ≤ 100000) :
    Calls Try.prog 31 #[.slice (some ⟨r, 0, none⟩) l.length c, .int .i64 i, .int .i64 ((i : Int) + 1)] w fun e w' =>
      e = .returned (.slice (some ⟨r, 0, none⟩) (l.eraseIdx i).length c) ∧ w'.ownsRow B 66 2 (.slice (some ⟨r, 0, none⟩) (l.eraseIdx i).length c) (l.eraseIdx i).length (cel (l.eraseIdx i)) ∧ Kept (One r) w w' := by
  obtain ⟨r', hr', hBr, hrl, _, _, hlc, hcm, cur, hh, hcs, hct⟩ := Bg.items hown (by omega)
  obtain rfl : r = r' := by injection hr' with hr'; injection hr'
  unfold maxLen at hcm
  obtain ⟨m, hm⟩ : ∃ m, l.length = i + 1 + m := ⟨l.length - (i + 1), by omega⟩
  obtain ⟨k, hk⟩ : ∃ k, c = i + 1 + m + k := ⟨c - (i + 1 + m), by omega⟩
  subst hk
  have he : (l.eraseIdx i).length = i + m := by rw [List.length_eraseIdx, if_pos hi]; omega
  rw [hm] at hown hl hlc hct ⊢
  rw [he]
  refine (Delete_aux B r i m k l w hm hown hl (by omega)).mono ?_
  rintro e w' ⟨rfl, zs, hzs, rfl⟩
  have hnl : (cel (l.drop (i + 1))).length = m * 2 := by rw [cel_len, List.length_drop]; omega
  obtain ⟨cur1, h1, hs1, ht1⟩ := heap_setCells (cel (l.drop (i + 1))) (i * 2) w.drew cur hh (by omega)
  obtain ⟨cur2, h2, hs2, ht2⟩ := heap_setCells zs ((i + m) * 2) _ cur1 h1 (by omega)
  refine ⟨rfl, ⟨by rw [cel_len, he], .inr ⟨r, _, cur2, rfl, hBr, h2, by omega, by unfold maxLen; omega, by omega, ?_⟩⟩, kept_setCells (S := One r) (.inl rfl) _ _ _ (kept_setCells (S := One r) (.inl rfl) _ _ _ (Kept.refl (One r) w).drew)⟩
  have hcl : cur.toList.length = (i + 1 + m + k) * 2 := by simpa using hcs
  have e1 : cur.toList.take (i * 2) = cel (l.take i) := by
    rw [cel_take, ← hct, List.take_take, Nat.min_eq_left (by omega)]
  have l1 : (cel (l.take i)).length = i * 2 := by rw [cel_len, List.length_take]; omega
  have e2 : cur1.toList.take ((i + m) * 2) = cel (l.take i) ++ cel (l.drop (i + 1)) := by
    rw [ht1, e1, List.take_append_of_le_length (by simp only [List.length_append]; omega), List.take_of_length_le (by simp only [List.length_append]; omega)]
  rw [ht2, e2, cel_erase l i hi, List.append_assoc, List.take_append_of_le_length (by simp only [List.length_append]; omega), List.take_of_length_le (by simp only [List.length_append]; omega)]
/-- What a bag is whose row was turned in place. -/
theorem Bg.turned {B g r c : Nat} {row : Option Nat} {most last : Int} {l l' : List It} {w w1 : World} (h : Bg B w g row most last l) (hr : (Value.slice (some ⟨r, 0, none⟩) l.length c).ownBlock = row)
    (hh : w.heap[g]? = some (.cells #[.slice (some ⟨r, 0, none⟩) l.length c, .int .i64 most, .int .i64 last] 52 (0, 0))) (hown : w1.ownsRow B 66 2 (.slice (some ⟨r, 0, none⟩) l'.length c) l'.length (cel l')) (hk : Kept (One r) w w1) (hrg : r ≠ g) :
    Bg B (w1.setCell ⟨g, 0, none⟩ (.slice (some ⟨r, 0, none⟩) l'.length c)) g row most last l' ∧ Kept (Tw g row) w (w1.setCell ⟨g, 0, none⟩ (.slice (some ⟨r, 0, none⟩) l'.length c)) := by
  refine ⟨⟨h.1, some ⟨r, 0, none⟩, c, hr, ?_, ?_⟩, ?_⟩
  · exact blk_set (hk.heap (fun h => hrg (by have h : g = r := h; omega)) hh) 0 _
  · exact row_kept hown (Kept.one (Kept.refl (One g) w1) 0 _) (fun k hk h => by
      have hk : r = k := by simpa [Value.ownBlock] using hk
      have h : k = g := h
      omega)
  · exact (hk.mono (fun i _ hi => .inr (by have hi : i = r := hi; rw [← hr, hi]; rfl))).setCell (p := ⟨g, 0, none⟩) (.inl (.inl rfl)) _
set_option maxRecDepth 100000 in
theorem Take_yes (B g : Nat) (row : Option Nat) (most last : Int) (l : List It) (i : Nat) (w : World) (h : Bg B w g row most last l) (hi : i < l.length) (hl : l.length ≤ 100000) :
    Calls Try.prog 14 #[.pointer (some ⟨g, 0, none⟩), .int .i64 i] w fun e w' => e = .returned (.tuple #[.int .i64 (nth l i).2, .bool true]) ∧ Bg B w' g row most last (l.eraseIdx i) ∧ Kept (Tw g row) w w' := by
  have HB := Lib.hid h
  obtain ⟨a, c, c0, _, _, hfz, hown, hrow, _, hh⟩ := h.cells
  obtain ⟨r, rfl, _⟩ := Bg.items hown (by omega)
  have hrg : r ≠ g := fun he => own_ne hown hh (by decide) (by rw [he]; rfl)
  have f0 := hfz 0
  have HD := Lib.hid (Delete_any B r c i l w hown hi hl)
  have HA := Lib.hid (At_yes B g row most last l i w h hi)
  have HH := Lib.hid hh
  have HR := Lib.hid hrow
  have HG := Lib.hid hrg
  have hwr : IntKind.i64.wrap ((i : Int) + 1) = (i : Int) + 1 := IntWalk.i64_in _ (by omega)
  obtain ⟨x, hx⟩ : ∃ x, x = (nth l i).2 := ⟨_, rfl⟩
  rw [← hx] at HA ⊢
  obtain ⟨l', hl'⟩ : ∃ l', l' = l.eraseIdx i := ⟨_, rfl⟩
  rw [← hl'] at HD ⊢
  clear h hown hh hrow hfz hx hl' hrg
  go_enter Try.func14, Try.ntmps14
  go_wp2_with fail
  refine HA.out.mono ?_
  rintro e w1 ⟨rfl, rfl⟩
  go_wp2_with fail
  refine HD.out.mono ?_
  rintro e w1 ⟨rfl, hown1, hk1⟩
  have HO1 := Lib.hid hown1
  have HK1 := Lib.hid hk1
  have g1 := hk1.heap (fun h => HG.out (by have h : g = r := h; omega)) HH.out
  have q0 : w1.cell? ⟨g, 0, none⟩ = some (.slice (some ⟨r, 0, none⟩) l.length c) := cell_of_row _ _ 0 _ _ _ g1
  have z0 : w1.frozen? ⟨g, 0, none⟩ = false := blk_frozen0 g1 0
  clear hown1 hk1 g1
  go_wp2
  go_ret2
  exact ⟨rfl, Bg.turned HB.out HR.out HH.out HO1.out HK1.out HG.out⟩
theorem Take_no (B g : Nat) (row : Option Nat) (most last : Int) (l : List It) (i : Int) (w : World) (h : Bg B w g row most last l) (hi : i < 0 ∨ (l.length : Int) ≤ i) :
    Calls Try.prog 14 #[.pointer (some ⟨g, 0, none⟩), .int .i64 i] w fun e w' => e = .returned (.tuple #[.int .i64 0, .bool false]) ∧ w = w' := by
  have HA := Lib.hid (At_no B g row most last l i w h hi)
  clear h hi
  go_enter Try.func14, Try.ntmps14
  go_wp2_with fail
  refine HA.out.mono ?_
  rintro e w1 ⟨rfl, rfl⟩
  go_wp2
  go_ret2
  exact ⟨rfl, rfl⟩
set_option maxRecDepth 100000 in
/-- The page's example of layer 6 holds. -/
theorem awake6_any (w : World) : Calls Try.prog 10 #[] w fun e w' => e = .returned (.bool true) ∧ Kept NoB w w' := by
  go_enter Try.func10, Try.ntmps10
  go_wp2_with fail
  refine (BNew_any w.heap.size 9 w (Nat.le_refl _)).mono ?_
  rintro e w1 ⟨rfl, hb1, hk1⟩
  have B1 := Lib.hid hb1
  have K1 := Lib.hid hk1
  clear hb1 hk1
  go_wp2_with fail
  refine (Put_any _ _ _ _ _ _ 7 _ B1.out (by decide) (by decide) (by decide) (by decide) K1.out.size).mono ?_
  rintro e w2 ⟨rfl, row2, hb2, hk2, _⟩
  have B2 := Lib.hid hb2
  have K2 := Lib.hid (Bg.frame B1.out K1.out hk2 (Nat.le_refl _))
  clear hb2 hk2
  go_wp2_with fail
  refine (Put_any _ _ _ _ _ _ 8 _ B2.out (by decide) (by decide) (by decide) (by decide) K2.out.size).mono ?_
  rintro e w3 ⟨rfl, row3, hb3, hk3, _⟩
  have B3 := Lib.hid hb3
  have K3 := Lib.hid (Bg.frame B2.out K2.out hk3 (Nat.le_refl _))
  clear hb3 hk3
  go_wp2_with fail
  refine (Put_any _ _ _ _ _ _ 9 _ B3.out (by decide) (by decide) (by decide) (by decide) K3.out.size).mono ?_
  rintro e w4 ⟨rfl, row4, hb4, hk4, _⟩
  have B4 := Lib.hid hb4
  have K4 := Lib.hid (Bg.frame B3.out K3.out hk4 (Nat.le_refl _))
  clear hb4 hk4
  go_wp2_with fail
  refine (Take_yes _ _ _ _ _ _ 1 _ B4.out (by decide) (by decide)).mono ?_
  rintro e w5 ⟨rfl, hb5, hk5⟩
  have B5 := Lib.hid hb5
  have K5 := Lib.hid (Bg.frame B4.out K4.out hk5 (Nat.le_refl _))
  clear hb5 hk5
  go_wp2_with fail
  refine (Len_any _ _ _ _ _ _ _ B5.out).mono ?_
  rintro e w6 ⟨rfl, rfl⟩
  go_wp2_with fail
  refine (No_yes _ _ _ _ _ _ 0 _ B5.out (by decide)).mono ?_
  rintro e w6 ⟨rfl, rfl⟩
  go_wp2_with fail
  refine (No_yes _ _ _ _ _ _ 1 _ B5.out (by decide)).mono ?_
  rintro e w6 ⟨rfl, rfl⟩
  go_wp2
  go_ret
  exact ⟨rfl, K5.out⟩
end Go.Proofs.Yteinjmhogkneoaa
