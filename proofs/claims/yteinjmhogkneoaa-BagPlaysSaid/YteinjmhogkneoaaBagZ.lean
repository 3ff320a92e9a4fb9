/-
  The chapter's answers on bags: append from a row, and Odd.
-/
import Derived.Test.YteinjmhogkneoaaBagY
import Derived.Deep.AppendLies
import Derived.Laws.AppendOwnNone
namespace Go.Proofs.Yteinjmhogkneoaa
open Go.RowKit
set_option linter.unusedVariables false

theorem Try.info56 : (Try.prog.info? 56).map (fun i => (i.zero, i.size, i.bytes)) = some (some (.agg #[.int .i64 0, .int .i64 0]), 2, 16) := by kernel_rfl
theorem own_form2 {w : World} {base n size : Nat} {e : TypeId} {v : Value} {xs : List Value} (h : w.ownsRow base e size v n xs) : ∃ a c, v = .slice a n c := by
  rcases h.2 with ⟨rfl, h0⟩ | ⟨r, cap, cur, rfl, _⟩
  · exact ⟨none, 0, by rw [h0]⟩
  · exact ⟨_, _, rfl⟩
/-- A slice that reads as the items l. -/
def Src (w : World) (y : Value) (l : List It) : Prop := ∃ a c, y = .slice a l.length c ∧ (a = none → l = [] ∧ c = 0) ∧ ∀ ad, a = some ad → ∀ j u, (cel l)[j]? = some u → w.cell? (ad.add j) = some u
theorem Src.no {w w' : World} {y : Value} {l : List It} (h : Src w y l) (hk : Kept NoB w w') : Src w' y l := by
  obtain ⟨a, c, h1, h2, h3⟩ := h
  exact ⟨a, c, h1, h2, fun ad ha j u hu => hk.cell (fun h => h) (h3 ad ha j u hu)⟩
theorem RRow.src {B : Nat} {w : World} {a : Option Addr} {c : Nat} {l : List It} (h : RRow B w a c l) : Src w (.slice a l.length c) l := by
  refine ⟨a, c, rfl, fun ha => ?_, fun ad ha j u hu => ?_⟩
  · rcases h.2 with ⟨hv, h0⟩ | ⟨r, cap, cur, hv, _⟩
    · injection hv with _ _ hc
      exact ⟨List.eq_nil_of_length_eq_zero h0, hc⟩
    · subst ha
      injection hv with hv
      cases hv
  · have hj : j < (cel l).length := by
      rcases Nat.lt_or_ge j (cel l).length with h | h
      · exact h
      · rw [List.getElem?_eq_none h] at hu; cases hu
    rw [cel_len] at hj
    obtain ⟨r, ha2, _, _, _, _, hc⟩ := h.items (by omega)
    subst ha2
    injection ha with ha
    subst ha
    have hadd : (⟨r, 0, none⟩ : Addr).add j = ⟨r, j, none⟩ := by unfold Addr.add; split <;> simp_all
    rw [hadd]
    exact hc j u hu
theorem run_append_src {P : Program} (w : World) (base : Nat) (t ty e : TypeId) (i : TypeInfo) (z : Value) (ht : P.underlying t = some (.slice e)) (hi : P.info? e = some i) (hz : i.zero = some z)
    (hsize : i.size = 2) (hby : i.bytes = 16) (hzs : z.cells.size = 2)
    (v : Value) (n : Nat) (k : List It) (hown : w.ownsRow base e 2 v n (cel k)) (y : Value) (l : List It) (hy : Src w y l)
    (hbytes : n + l.length ≤ 1000000) (hbase : base ≤ w.heap.size) :
    ∃ a' c' w', (Builtin.append_ #[t, t] ty #[v, y]).run P w = .ok (.slice a' (n + l.length) c') w' ∧ w'.ownsRow base e 2 (.slice a' (n + l.length) c') (n + l.length) (cel (k ++ l)) ∧ w.grownBy w' v.ownBlock ∧
      ((Value.slice a' (n + l.length) c').ownBlock = v.ownBlock ∨ (Value.slice a' (n + l.length) c').ownBlock = some w.heap.size) := by
  obtain ⟨a, c, rfl, hn, hc⟩ := hy
  rcases a with _ | ad
  · obtain ⟨rfl, rfl⟩ := hn rfl
    obtain ⟨a', c', rfl⟩ := own_form2 hown
    exact ⟨a', c', w, run_append_owned_none w base t ty e i 2 ht hi _ n _ hown, by simpa using hown, ⟨rfl, rfl, rfl, Nat.le_refl _, fun _ _ _ => rfl⟩, .inl rfl⟩
  · obtain ⟨v', w', hrun, h2, h3, _, h5⟩ := run_append_own_at (P := P) w base t ty e i z 2 16 ht hi hz hsize hby hzs (by decide) v n _ hown ad l.length c (cel l) (cel_len l) (hc ad rfl) (cel_one l) (by unfold maxLen; omega) (by omega) hbase
    obtain ⟨a', c', rfl⟩ := own_form2 h2
    exact ⟨a', c', w', hrun, by rw [cel_app]; exact h2, h3, h5⟩
theorem wp_append_src {P : Program} (w : World) {o : Oper} {a : Act} {K : Act → World → Prop} {Q : Exit → Act → World → Prop} (s x : Operand) (t : TypeId)
    (ho : o.op = .call { callee := .builtin .append, args := #[s, x], argTypes := #[t, t] })
    (base : Nat) (e : TypeId) (i : TypeInfo) (z : Value) (ht : P.underlying t = some (.slice e)) (hi : P.info? e = some i) (hz : i.zero = some z)
    (hsize : i.size = 2) (hby : i.bytes = 16) (hzs : z.cells.size = 2)
    (v : Value) (n : Nat) (k : List It) (hs : a.eval s = v) (hown : w.ownsRow base e 2 v n (cel k)) (y : Value) (l : List It) (hx : a.eval x = y) (hy : Src w y l)
    (hbytes : n + l.length ≤ 1000000) (hbase : base ≤ w.heap.size)
    (h : ∀ a' c' w', w'.ownsRow base e 2 (.slice a' (n + l.length) c') (n + l.length) (cel (k ++ l)) → w.grownBy w' v.ownBlock → ((Value.slice a' (n + l.length) c').ownBlock = v.ownBlock ∨ (Value.slice a' (n + l.length) c').ownBlock = some w.heap.size) → K (a.put o.dst (.slice a' (n + l.length) c')) w') : o.wp P a w K Q := by
  obtain ⟨a', c', w', hr, h2, h3, h4⟩ := run_append_src (P := P) w base t o.type e i z ht hi hz hsize hby hzs v n k hown y l hy hbytes hbase
  unfold Oper.wp execOp
  simp only [ho, resolve, invoke, builtin, Sem.run_bind, Sem.run_pure, Result.andThen_ok, List.map_toArray, List.map_cons, List.map_nil, hs, hx, hr]
  exact h a' c' w' h2 h3 h4
theorem wpList_append_src {P : Program} (w : World) {ops : Array Oper} {rest : List Oper} {o : Oper} {a : Act} {Q : Exit → Act → World → Prop} (hgd : o.guard = none) (s x : Operand) (t : TypeId)
    (ho : o.op = .call { callee := .builtin .append, args := #[s, x], argTypes := #[t, t] })
    (base : Nat) (e : TypeId) (i : TypeInfo) (z : Value) (ht : P.underlying t = some (.slice e)) (hi : P.info? e = some i) (hz : i.zero = some z)
    (hsize : i.size = 2) (hby : i.bytes = 16) (hzs : z.cells.size = 2)
    (v : Value) (n : Nat) (k : List It) (hs : a.eval s = v) (hown : w.ownsRow base e 2 v n (cel k)) (y : Value) (l : List It) (hx : a.eval x = y) (hy : Src w y l)
    (hbytes : n + l.length ≤ 1000000) (hbase : base ≤ w.heap.size)
    (h : ∀ a' c' w', w'.ownsRow base e 2 (.slice a' (n + l.length) c') (n + l.length) (cel (k ++ l)) → w.grownBy w' v.ownBlock → ((Value.slice a' (n + l.length) c').ownBlock = v.ownBlock ∨ (Value.slice a' (n + l.length) c').ownBlock = some w.heap.size) → wpList P ops Q rest (a.put o.dst (.slice a' (n + l.length) c')) w') : wpList P ops Q (o :: rest) a w :=
  wpList_plain hgd fun _ hK => wp_append_src w s x t ho base e i z ht hi hz hsize hby hzs v n k hs hown y l hx hy hbytes hbase fun a' c' w' h2 h3 h4 => hK _ _ (h a' c' w' h2 h3 h4)
theorem step_append_src {P : Program} (w : World) {ops : Array Oper} {o : Oper} {a : Act} {K : Act → World → Prop} {Q : Exit → Act → World → Prop} {E : Prop} (hgd : o.guard = none) (s x : Operand) (t : TypeId)
    (ho : o.op = .call { callee := .builtin .append, args := #[s, x], argTypes := #[t, t] })
    (base : Nat) (e : TypeId) (i : TypeInfo) (z : Value) (ht : P.underlying t = some (.slice e)) (hi : P.info? e = some i) (hz : i.zero = some z)
    (hsize : i.size = 2) (hby : i.bytes = 16) (hzs : z.cells.size = 2)
    (v : Value) (n : Nat) (k : List It) (hs : a.eval s = v) (hown : w.ownsRow base e 2 v n (cel k)) (y : Value) (l : List It) (hx : a.eval x = y) (hy : Src w y l)
    (hbytes : n + l.length ≤ 1000000) (hbase : base ≤ w.heap.size)
    (h : ∀ a' c' w', w'.ownsRow base e 2 (.slice a' (n + l.length) c') (n + l.length) (cel (k ++ l)) → w.grownBy w' v.ownBlock → ((Value.slice a' (n + l.length) c').ownBlock = v.ownBlock ∨ (Value.slice a' (n + l.length) c').ownBlock = some w.heap.size) → K (a.put o.dst (.slice a' (n + l.length) c')) w') :
    if Region.wanted o (yielded ops a.tmps) = true then Oper.wp P o a w K Q else E := by
  have hw : Region.wanted o (yielded ops a.tmps) = true := by simp [Region.wanted, hgd]
  rw [if_pos hw]
  exact wp_append_src w s x t ho base e i z ht hi hz hsize hby hzs v n k hs hown y l hx hy hbytes hbase h

theorem kept6_take (l : List It) (k : Nat) (h : k < l.length) : kept6 (l.take (k + 1)) = kept6 (l.take k) ++ (if oddB (nth l k).2 = true then [nth l k] else []) := by
  unfold kept6
  rw [show l.take (k + 1) = l.take k ++ [nth l k] by rw [List.take_add_one, nth_lt h]; rfl, List.filter_append]
  by_cases hc : oddB (nth l k).2 = true
  · simp [hc]
  · simp [hc]
theorem kept6_le (l : List It) : (kept6 l).length ≤ l.length := List.length_filter_le _ _
/-- The element that an append lays first. -/
theorem src_blk {w : World} {g : Nat} {x : It} {t : TypeId} {fr : Nat × Nat} (h : w.heap[g]? = some (.cells #[.int .i64 x.1, .int .i64 x.2] t fr)) : Src w (.slice (some ⟨g, 0, none⟩) 1 1) [x] := by
  refine ⟨some ⟨g, 0, none⟩, 1, rfl, fun h => (by simp at h), fun ad ha j u hu => ?_⟩
  injection ha with ha
  subst ha
  exact World.news_of_block h j u (by simpa [cel] using hu)
theorem src_one (w : World) (x : It) (t : TypeId) : Src (w.alloc (.cells #[.int .i64 x.1, .int .i64 x.2] t)) (.slice (some ⟨w.heap.size, 0, none⟩) 1 1) [x] := src_blk (heap_alloc_new w _)
theorem own_base {w : World} {B e size n : Nat} {v : Value} {xs : List Value} (h : w.ownsRow B e size v n xs) {k : Nat} (hk : v.ownBlock = some k) : B ≤ k := by
  rcases h.2 with ⟨hv, _⟩ | ⟨r, cap, cur, hv, hb, _⟩
  · rw [hv] at hk; cases hk
  · rw [hv] at hk
    injection hk with hk
    subst hk
    exact hb
set_option maxRecDepth 100000 in
theorem ROdd_any (B : Nat) (most last : Int) (a : Option Addr) (c : Nat) (l : List It) (w : World) (h : RRow B w a c l) (hl : l.length ≤ 100000) (hB : B ≤ w.heap.size) : Calls Try.prog 29 #[rbv most last a l.length c] w fun e w' =>
    ∃ a' c', e = .returned (.tuple #[rbv most last a' (kept6 l).length c', .int .i64 ((l.length : Int) - (kept6 l).length)]) ∧ RRow B w' a' c' (kept6 l) ∧ Kept NoB w w' := by
  obtain ⟨i0, hi0, hz0, hz1, hz2⟩ := info_parts Try.info56
  obtain ⟨W, hW⟩ : ∃ W, W = (w.alloc (.cells #[.int .i64 most, .int .i64 last, .slice a l.length c] 27)).alloc (.cells #[.int .i64 0, .int .i64 0, .slice none 0 0] 27) := ⟨_, rfl⟩
  have hz := blk_alloc (heap_alloc_new w (.cells #[.int .i64 most, .int .i64 last, .slice a l.length c] 27)) (.cells #[.int .i64 0, .int .i64 0, .slice none 0 0] 27)
  have hy := heap_alloc_new (w.alloc (.cells #[.int .i64 most, .int .i64 last, .slice a l.length c] 27)) (.cells #[.int .i64 0, .int .i64 0, .slice none 0 0] 27)
  rw [show (w.alloc (.cells #[.int .i64 most, .int .i64 last, .slice a l.length c] 27)).heap.size = w.heap.size + 1 by simp] at hy
  rw [← hW] at hz hy
  have hk0 : Kept NoB w W := by rw [hW]; exact ((Kept.refl NoB w).alloc _).alloc _
  have HK := Lib.hid hk0
  have HR := Lib.hid (h.no hk0)
  have HZ := Lib.hid hz
  have HY := Lib.hid hy
  have q2 : W.cell? ⟨w.heap.size, 2, none⟩ = some (.slice a l.length c) := cell_of_row _ _ 2 _ _ _ hz
  have hBW : B ≤ W.heap.size := Nat.le_trans hB hk0.size
  go_enter Try.func29, Try.ntmps29
  go_wp2
  rw [← hW]
  clear hW hz hy h hk0
  go_loopw [4, 5] (fun i j wr => ∃ (k : Nat) (a4 : Option Addr) (c4 : Nat), i = .slice a4 (kept6 (l.take k)).length c4 ∧ j = .int .i64 k ∧ k ≤ l.length ∧ RRow W.heap.size wr a4 c4 (kept6 (l.take k)) ∧ Kept NoB W wr) (fun i j _ => l.length - (intOf j).toNat)
  case atStart => exact ⟨0, none, 0, rfl, rfl, Nat.zero_le _, World.ownsRow_nil _ _ _ _, Kept.refl _ _⟩
  case round =>
    obtain ⟨k, a4, c4, rfl, rfl, hk, hrow, hkw⟩ := hrel
    have q2' := hkw.cell (fun h => h) q2
    have HK4 := Lib.hid hkw
    have HROW := Lib.hid hrow
    have hle := kept6_le (l.take k)
    rw [List.length_take] at hle
    by_cases hlt : k < l.length
    · obtain ⟨r, rfl, _, hc, _⟩ := (HR.out.no hkw).items (by omega)
      obtain ⟨e0, e1⟩ := hc k hlt
      have HKT := Lib.hid (kept6_take l k hlt)
      have HN := Lib.hid (show nth l k = ((nth l k).1, (nth l k).2) from rfl)
      obtain ⟨x, hx⟩ : ∃ x, x = (nth l k).1 := ⟨_, rfl⟩
      obtain ⟨y, hy⟩ : ∃ y, y = (nth l k).2 := ⟨_, rfl⟩
      rw [← hx] at e0 HN
      rw [← hy] at e1 HN HKT
      obtain ⟨m, hm⟩ : ∃ m, m = kept6 (l.take k) := ⟨_, rfl⟩
      rw [← hm] at HKT HROW hle ⊢
      clear hc hx hy hm hkw hrow
      by_cases ho : oddB y = true
      · have HK5 := Lib.hid (HKT.out.trans (by rw [if_pos ho, HN.out]))
        have ho' : ¬ y.tmod 2 = 0 := by unfold oddB at ho; simpa using ho
        go_wp2_with (at_builtin; refine wpList_append_src _ rfl (.tmp 22) (.tmp 28) _ rfl W.heap.size 56 i0 _ Try.underlying25 hi0 hz0 hz1 hz2 rfl (.slice a4 m.length c4) m.length m rfl (HROW.out.alloc _) (.slice (some ⟨wr.heap.size, 0, none⟩) 1 1) [(x, y)] rfl (src_one wr (x, y) _) (by simp; omega) (by have := HK4.out.size; simp; omega) ?_; intro a5 c5 w5 hown5 hg5 hat5)
        exact ⟨⟨k + 1, a5, c5, by rw [HK5.out, List.length_append]; rfl, by go_num, by omega, by rw [HK5.out]; unfold RRow; rw [List.length_append]; exact hown5, (HK4.out.alloc _).grown hg5 (fun k hk => .inr (own_base HROW.out hk))⟩, by simp [intOf]; omega⟩
      · have HK5 := Lib.hid (HKT.out.trans (by rw [if_neg ho]))
        have ho' : y.tmod 2 = 0 := by unfold oddB at ho; simpa using ho
        go_wp2
        exact ⟨⟨k + 1, a4, c4, by rw [HK5.out, List.append_nil], by go_num, by omega, by rw [HK5.out, List.append_nil]; exact HROW.out, HK4.out⟩, by simp [intOf]; omega⟩
    · obtain rfl : k = l.length := by omega
      rw [show l.take l.length = l from List.take_length] at HROW hle ⊢
      have hz1' := HK4.out.heap (fun h => h) HZ.out
      have hy1' := HK4.out.heap (fun h => h) HY.out
      have r0 : wr.cell? ⟨w.heap.size, 0, none⟩ = some (.int .i64 most) := cell_of_row _ _ 0 _ _ _ hz1'
      have r1 : wr.cell? ⟨w.heap.size, 1, none⟩ = some (.int .i64 last) := cell_of_row _ _ 1 _ _ _ hz1'
      have v0 : wr.cell? ⟨w.heap.size + 1, 0, none⟩ = some (.int .i64 0) := cell_of_row _ _ 0 _ _ _ hy1'
      have v1 : wr.cell? ⟨w.heap.size + 1, 1, none⟩ = some (.int .i64 0) := cell_of_row _ _ 1 _ _ _ hy1'
      have v2 : wr.cell? ⟨w.heap.size + 1, 2, none⟩ = some (.slice none 0 0) := cell_of_row _ _ 2 _ _ _ hy1'
      have s0 : wr.frozen? ⟨w.heap.size + 1, 0, none⟩ = false := blk_frozen0 hy1' 0
      have s1 : wr.frozen? ⟨w.heap.size + 1, 1, none⟩ = false := blk_frozen0 hy1' 1
      have s2 : wr.frozen? ⟨w.heap.size + 1, 2, none⟩ = false := blk_frozen0 hy1' 2
      have z0 : wr.frozen? ⟨w.heap.size, 2, none⟩ = false := blk_frozen0 hz1' 2
      have b0 : (wr.setCell ⟨w.heap.size, 2, none⟩ (.slice a4 (kept6 l).length c4)).heap[w.heap.size]? = _ := blk_set hz1' 2 _
      have y0 : (wr.setCell ⟨w.heap.size, 2, none⟩ (.slice a4 (kept6 l).length c4)).heap[w.heap.size + 1]? = _ := blk_set_other hy1' 2 _ (by omega)
      have hks : Kept NoB w (wr.setCell ⟨w.heap.size, 2, none⟩ (.slice a4 (kept6 l).length c4)) := (HK.out.trans HK4.out (fun _ _ h => h)).setCell (p := ⟨w.heap.size, 2, none⟩) (.inr (Nat.le_refl _)) _
      have hrs : RRow W.heap.size (wr.setCell ⟨w.heap.size, 2, none⟩ (.slice a4 (kept6 l).length c4)) a4 c4 (kept6 l) := HROW.out.kept (S := One w.heap.size) (Kept.one (Kept.refl _ _) 2 _) (fun k cs fr hh h => by
        have h : k = w.heap.size := h
        subst h
        rw [hz1'] at hh
        injection hh with hh
        injection hh with _ hh
        cases hh)
      have b1 := blk_set (blk_set (blk_set y0 0 (.int .i64 most)) 1 (.int .i64 last)) 2 (.slice a4 (kept6 l).length c4)
      have p0 := cell_of_row _ _ 0 _ _ _ b1
      have p1 := cell_of_row _ _ 1 _ _ _ b1
      have p2 := cell_of_row _ _ 2 _ _ _ b1
      have hk3 := ((hks.setCell (p := ⟨w.heap.size + 1, 0, none⟩) (.inr (by show w.heap.size ≤ w.heap.size + 1; omega)) (.int .i64 most)).setCell (p := ⟨w.heap.size + 1, 1, none⟩) (.inr (by show w.heap.size ≤ w.heap.size + 1; omega)) (.int .i64 last)).setCell (p := ⟨w.heap.size + 1, 2, none⟩) (.inr (by show w.heap.size ≤ w.heap.size + 1; omega)) (.slice a4 (kept6 l).length c4)
      have P0 := Lib.hid p0
      have P1 := Lib.hid p1
      have P2 := Lib.hid p2
      have HK3 := Lib.hid hk3
      have HRS := Lib.hid hrs
      have y0' := y0
      clear b0 b1 y0 hks hrs p0 p1 p2 hk3 hz1' hy1'
      go_wp2
      refine bodyPost_ret (v := .tuple #[rbv most last a4 (kept6 l).length c4, .int .i64 ((l.length : Int) - (kept6 l).length)]) ?_ rfl ⟨a4, c4, rfl, ?_, HK3.out⟩
      · have p0 := P0.out
        have p1 := P1.out
        have p2 := P2.out
        simp at p0 p1 p2
        simp [results, Try.results29, go_sem, p0, p1, p2]
      · have hrs2 := RRow.kept (S := One (w.heap.size + 1)) HRS.out (Kept.one (Kept.one (Kept.one (Kept.refl _ _) 0 (.int .i64 most)) 1 (.int .i64 last)) 2 (.slice a4 (kept6 l).length c4)) (fun k cs fr hh h => by
          have h : k = w.heap.size + 1 := h
          subst h
          rw [y0'] at hh
          injection hh with hh
          injection hh with _ hh
          cases hh)
        exact row_mono hrs2 hBW
end Go.Proofs.Yteinjmhogkneoaa
