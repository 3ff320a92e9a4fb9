/-
  Layer 29: append of entries that a slice has to a row of the call's own; slices.Concat.
-/
import Derived.Test.YtokafgleejcbgaaDoorDirZ
namespace Go.Proofs.YtokafgleejcbgaaDoor
open Go.RowKit
set_option linter.unusedVariables false

theorem run_append_es {T t : TypeId} {i0 : TypeInfo} {z : Value} (ht : Tryd.prog.underlying T = some (.slice t)) (hi : Tryd.prog.info? t = some i0) (hz : i0.zero = some z) (h1 : i0.size = 2) (h2 : i0.bytes = 24) (hzs : z.cells.size = 2)
    (w : World) (base : Nat) (ty : TypeId) (v : Value) (L : List En) (hown : EOwn t base w v L) (x : Value) (M : List En) (F : Nat → Prop) (hx : ESl w F x M) (hl : L.length + M.length ≤ 100000) (hbase : base ≤ w.heap.size) :
    ∃ a' c' w', (Builtin.append_ #[T, T] ty #[v, x]).run Tryd.prog w = .ok (.slice a' (L.length + M.length) c') w' ∧ EOwn t base w' (.slice a' (L.length + M.length) c') (L ++ M) ∧ w.grownBy w' v.ownBlock := by
  obtain ⟨xa, xc, rfl, g2, g3, g4, g5⟩ := hx
  rcases Nat.eq_zero_or_pos M.length with h0 | h0
  · obtain rfl : M = [] := List.eq_nil_of_length_eq_zero h0
    obtain ⟨a, c, rfl⟩ := hown.form
    cases xa with
    | none =>
      obtain rfl := g4 rfl
      exact ⟨a, c, w, run_append_owned_none w base _ ty _ i0 2 ht hi _ _ _ hown, by simpa using hown, ⟨rfl, rfl, rfl, Nat.le_refl _, fun _ _ _ => rfl⟩⟩
    | some ad =>
      obtain ⟨v', w', hrun, q2, q3, _, _⟩ := run_append_own_at (P := Tryd.prog) w base T ty t i0 z 2 24 ht hi hz h1 h2 hzs (by decide) _ L.length _ hown ad 0 xc [] (by simp) (fun j u hu => by simp at hu) (fun y hy => by cases hy) (by unfold maxLen; omega) (by omega) hbase
      have q2' : EOwn t base w' v' L := by
        have := q2
        simp only [List.append_nil, Nat.add_zero] at this
        exact this
      obtain ⟨a', c', e⟩ := q2'.form
      subst e
      exact ⟨a', c', w', hrun, by simpa using q2', q3⟩
  · obtain ⟨b, o, rfl, hF, hb, hc⟩ := g5 h0
    have hadd : ∀ j, (⟨b, o, none⟩ : Addr).add j = ⟨b, o + j, none⟩ := fun j => by unfold Addr.add; split <;> simp_all
    have hcell : ∀ j u, (celE M)[j]? = some u → w.cell? ((⟨b, o, none⟩ : Addr).add j) = some u := by
      intro j u hu
      have hj : j < (celE M).length := by
        rcases Nat.lt_or_ge j (celE M).length with h | h
        · exact h
        · rw [List.getElem?_eq_none h] at hu; cases hu
      rw [celE_len] at hj
      have hjm : j / 2 < M.length := by omega
      obtain ⟨e0, e1⟩ := hc (j / 2) hjm
      obtain ⟨f0, f1⟩ := celE_at hjm
      rw [hadd]
      rcases (by omega : j % 2 = 0 ∨ j % 2 = 1) with hp | hp
      · rw [show j / 2 * 2 = j by omega] at f0
        rw [show o + j = o + j / 2 * 2 by omega, e0, ← f0, hu]
      · rw [show j / 2 * 2 + 1 = j by omega] at f1
        rw [show o + j = o + j / 2 * 2 + 1 by omega, e1, ← f1, hu]
    obtain ⟨v', w', hrun, q2, q3, _, _⟩ := run_append_own_at (P := Tryd.prog) w base T ty t i0 z 2 24 ht hi hz h1 h2 hzs (by decide) _ L.length _ hown ⟨b, o, none⟩ M.length xc (celE M) (celE_len M) hcell (by
      intro y hy
      unfold celE at hy
      obtain ⟨z, _, hz⟩ := List.mem_flatMap.1 hy
      simp only [List.mem_cons, List.not_mem_nil, or_false] at hz
      rcases hz with rfl | rfl <;> rfl) (by unfold maxLen; omega) (by omega) hbase
    have q2' : EOwn t base w' v' (L ++ M) := by
      unfold EOwn
      rw [celE_app, List.length_append]
      exact q2
    obtain ⟨a', c', e⟩ := q2'.form
    rw [List.length_append] at e
    subst e
    exact ⟨a', c', w', hrun, q2', q3⟩
theorem wpList_append_es {T t : TypeId} {i0 : TypeInfo} {z : Value} (ht : Tryd.prog.underlying T = some (.slice t)) (hi : Tryd.prog.info? t = some i0) (hz : i0.zero = some z) (h1 : i0.size = 2) (h2 : i0.bytes = 24) (hzs : z.cells.size = 2)
    (w : World) {ops : Array Oper} {rest : List Oper} {o : Oper} {a : Act} {Q : Exit → Act → World → Prop} (hgd : o.guard = none) (s x : Operand)
    (ho : o.op = .call { callee := .builtin .append, args := #[s, x], argTypes := #[T, T] })
    (base : Nat) (v : Value) (L : List En) (hs : a.eval s = v) (hown : EOwn t base w v L) (y : Value) (M : List En) (F : Nat → Prop) (hx : a.eval x = y) (hy : ESl w F y M) (hl : L.length + M.length ≤ 100000) (hbase : base ≤ w.heap.size)
    (h : ∀ a' c' w', Hid (EOwn t base w' (.slice a' (L.length + M.length) c') (L ++ M)) → Hid (Kept (fun k => base ≤ k) w w') → wpList Tryd.prog ops Q rest (a.put o.dst (.slice a' (L.length + M.length) c')) w') : wpList Tryd.prog ops Q (o :: rest) a w := by
  refine wpList_plain hgd fun K hK => ?_
  obtain ⟨a', c', w', hrun, r2, r3⟩ := run_append_es ht hi hz h1 h2 hzs w base o.type v L hown y M F hy hl hbase
  unfold Oper.wp execOp
  simp only [ho, resolve, invoke, builtin, Sem.run_bind, Sem.run_pure, Result.andThen_ok, List.map_toArray, List.map_cons, List.map_nil, hs, hx, hrun]
  exact hK _ _ (h a' c' w' (show EOwn _ _ _ _ _ from r2) (show Kept _ _ _ from (Kept.refl _ w).grown r3 (fun k hk => .inl (hown.row29 k hk))))
/-- Slices of entries, one behind the other, in block b. -/
def PtsAt (w : World) (F : Nat → Prop) (b : Nat) (ps : List (Value × List En)) : Prop :=
  w.heap[b]? = some (.cells (ps.map (·.1)).toArray 27 (0, 0)) ∧ ∀ p ∈ ps, ESl w F p.1 p.2
theorem PtsAt.no {w w' : World} {F : Nat → Prop} {b : Nat} {ps : List (Value × List En)} (h : PtsAt w F b ps) (hk : Kept NoB w w') : PtsAt w' F b ps := ⟨hk.heap (fun h => h) h.1, fun p hp => (h.2 p hp).no hk⟩
theorem PtsAt.far {w w' : World} {F S : Nat → Prop} {b : Nat} {ps : List (Value × List En)} (h : PtsAt w F b ps) (hk : Kept S w w') (hb : ¬ S b) (hs : ∀ k, k < w.heap.size → F k → ¬ S k) : PtsAt w' F b ps := ⟨hk.heap hb h.1, fun p hp => (h.2 p hp).kept hk hs⟩
def pth29 (ps : List (Value × List En)) (k : Nat) : Value × List En := ps.getD k (.slice none 0 0, [])
theorem pth29_eq {ps : List (Value × List En)} {k : Nat} (h : k < ps.length) : pth29 ps k = ps[k] := by unfold pth29; rw [List.getD_eq_getElem?_getD, List.getElem?_eq_getElem h]; rfl
def sumE (ps : List (Value × List En)) : Nat := (ps.map (·.2.length)).sum
def catE (ps : List (Value × List En)) : List En := ps.flatMap (·.2)
theorem catE_len (ps : List (Value × List En)) : (catE ps).length = sumE ps := by
  unfold catE sumE
  induction ps with
  | nil => rfl
  | cons p ps ih => rw [List.flatMap_cons, List.length_append, ih]; simp
theorem ptake29 {ps : List (Value × List En)} {k : Nat} (h : k < ps.length) : ps.take (k + 1) = ps.take k ++ [pth29 ps k] := by rw [pth29_eq h]; exact List.take_succ_eq_append_getElem h
theorem sumE_snoc (ps : List (Value × List En)) (p : Value × List En) : sumE (ps ++ [p]) = sumE ps + p.2.length := by unfold sumE; simp
theorem catE_snoc (ps : List (Value × List En)) (p : Value × List En) : catE (ps ++ [p]) = catE ps ++ p.2 := by unfold catE; simp
theorem sumE_le (ps : List (Value × List En)) (k : Nat) : sumE (ps.take k) ≤ sumE ps := by
  conv => rhs; rw [← List.take_append_drop k ps]
  unfold sumE
  rw [List.map_append, List.sum_append]
  omega
set_option maxRecDepth 100000 in
set_option maxHeartbeats 8000000 in
theorem Concat29_any (b c n : Nat) (ps : List (Value × List En)) (F : Nat → Prop) (w : World) (h : PtsAt w F b ps) (hF : ∀ k, F k → k < w.heap.size) (hn : n = ps.length) (hn0 : 0 < n) (hnc : n ≤ c) (hc : c ≤ maxLen) (hs : sumE ps ≤ 1000) :
    Calls Tryd.prog 23 #[.slice (some ⟨b, 0, none⟩) n c] w fun e w' => ∃ v, e = .returned v ∧ ESl w' (fun k => w.heap.size ≤ k) v (catE ps) ∧ Kept NoB w w' := by
  obtain ⟨i0, hi0, hz0, hz1, hz2⟩ := info_parts info_en
  have H := Lib.hid h
  have HF := Lib.hid hF
  have HN := Lib.hid hn
  have HS := Lib.hid hs
  have hcell : ∀ w', Kept (fun i => w.heap.size ≤ i) w w' → ∀ k, k < n → ∃ a m cc, pth29 ps k = (.slice a m cc, (pth29 ps k).2) ∧ m = (pth29 ps k).2.length ∧ w'.cell? ⟨b, k, none⟩ = some (.slice a m cc) ∧ ESl w' F (.slice a m cc) (pth29 ps k).2 := by
    intro w' hk k hkn
    have hb := heap_lt h.1
    have h' := h.far hk (by omega) (fun i hi hf => by omega)
    have hm := h'.2 (pth29 ps k) (by rw [pth29_eq (by omega)]; exact List.getElem_mem _)
    obtain ⟨a, cc, he, _⟩ := id hm
    refine ⟨a, _, cc, Prod.ext he rfl, rfl, ?_, he ▸ hm⟩
    rw [cell_of_row _ _ _ _ _ _ h'.1, ← he]
    simp [List.getElem?_eq_getElem (show k < ps.length by omega), pth29_eq (show k < ps.length by omega)]
  have HCE := Lib.hid hcell
  have hsn : sumE (ps.take n) = sumE ps := by rw [hn, List.take_length]
  have hcn : catE (ps.take n) = catE ps := by rw [hn, List.take_length]
  have HSN := Lib.hid hsn
  have HCN := Lib.hid hcn
  have hn9 : n ≤ 9223372036854775807 := by unfold maxLen at hc; omega
  clear h hF hn hs hcell hsn hcn
  go_enter Tryd.func23, Tryd.ntmps23
  go_wp2_with fail
  go_loopw [3, 11] (fun s i wr => ∃ k : Nat, k ≤ n ∧ i = .int .i64 k ∧ s = .int .i64 (sumE (ps.take k)) ∧ Kept NoB w wr) (fun _ i _ => n - (RowKit.intOf i).toNat)
  case atStart => exact ⟨0, Nat.zero_le _, rfl, rfl, Kept.refl _ _⟩
  case round =>
    obtain ⟨k, hk, rfl, rfl, hkk⟩ := hrel
    have HK := Lib.hid hkk
    clear hkk
    have hk0 : (0 : Int) ≤ (k : Int) := by omega
    by_cases hlt : k < n
    · have hk1 : (k : Int) < (n : Int) := by omega
      obtain ⟨a, m, cc, hp, hm, e0, _⟩ := HCE.out _ (HK.out.mono (T := fun i => w.heap.size ≤ i) (fun _ _ h => h.elim)) k hlt
      have hsk : sumE (ps.take (k + 1)) = sumE (ps.take k) + m := by rw [ptake29 (by have := HN.out; omega), sumE_snoc, ← hm]
      have hle := sumE_le ps (k + 1)
      have hs := HS.out
      obtain ⟨q, hq⟩ : ∃ q, q = sumE (ps.take k) := ⟨_, rfl⟩
      rw [← hq] at hsk ⊢
      have HSK := Lib.hid hsk
      have hb1 : q + m ≤ 1000 := by omega
      have w1 : IntKind.i64.wrap ((q : Int) + (m : Int)) = ((q + m : Nat) : Int) := by rw [IntWalk.i64_in _ (by omega)]; omega
      have g1 : (0 : Int) ≤ ((q + m : Nat) : Int) := by omega
      obtain ⟨r, hr⟩ : ∃ r, r = q + m := ⟨_, rfl⟩
      rw [← hr] at w1 g1 HSK
      have d1 : decide ((r : Int) < 0) = false := decide_eq_false (by omega)
      clear hp hm hsk hle hs hq hr
      go_wp2_with fail
      exact ⟨⟨k + 1, by omega, by go_num, by rw [HSK.out], HK.out⟩, by simp [RowKit.intOf]; omega⟩
    · obtain rfl : k = n := by omega
      rw [HSN.out]
      obtain ⟨S, hS⟩ : ∃ S, S = sumE ps := ⟨_, rfl⟩
      have hs1 : S ≤ 1000 := by rw [hS]; exact HS.out
      rw [← hS]
      have HGR := Lib.hid (fun w => Grow29_any S w hs1)
      clear hS
      go_wp2_with (go_at_call 31; refine (HGR.out _).mono ?_; rintro e w2 ⟨v2, rfl, ho, hk2⟩; have HO := Lib.hid ho; have HK2 := Lib.hid (HK.out.trans hk2 (fun _ _ h => h)); clear ho hk2)
      have hz := HK.out.size
      obtain ⟨ga, gc, hgv⟩ := HO.out.form
      rw [List.length_nil] at hgv
      subst hgv
      have HO2 := Lib.hid (HO.out.low hz)
      clear hz
      go_loopw [6, 27] (fun o i wq => ∃ (j : Nat) (oa : Option Addr) (oc : Nat), j ≤ k ∧ i = .int .i64 j ∧ o = .slice oa (catE (ps.take j)).length oc ∧ EOwn 32 w.heap.size wq (.slice oa (catE (ps.take j)).length oc) (catE (ps.take j)) ∧ Kept (fun i => w.heap.size ≤ i) w wq) (fun _ i _ => k - (RowKit.intOf i).toNat)
      case atStart => exact ⟨0, ga, gc, Nat.zero_le _, rfl, rfl, HO2.out, HK2.out.mono (fun _ _ h => h.elim)⟩
      case round =>
        obtain ⟨j, oa, oc, hj, rfl, rfl, hown, hkq⟩ := hrel
        have HOW := Lib.hid hown
        have HKQ := Lib.hid hkq
        have HSZ := Lib.hid hkq.size
        clear hown hkq
        have hj0 : (0 : Int) ≤ (j : Int) := by omega
        by_cases hlt2 : j < k
        · have hj1 : (j : Int) < (k : Int) := by omega
          obtain ⟨a, m, cc, hp, hm, e0, hes⟩ := HCE.out _ HKQ.out j hlt2
          have hck : catE (ps.take (j + 1)) = catE (ps.take j) ++ (pth29 ps j).2 := by rw [ptake29 (by have := HN.out; omega), catE_snoc]
          have hle := sumE_le ps (j + 1)
          rw [← catE_len, hck, List.length_append] at hle
          have hs := HS.out
          obtain ⟨M, hM⟩ : ∃ M, M = (pth29 ps j).2 := ⟨_, rfl⟩
          obtain ⟨C, hC⟩ : ∃ C, C = catE (ps.take j) := ⟨_, rfl⟩
          rw [← hM] at hm hes hck hle
          rw [← hC] at hck hle HOW ⊢
          have HES := Lib.hid hes
          have HCK := Lib.hid hck
          have HLL : Hid (C.length + M.length ≤ 100000) := Lib.hid (by omega)
          clear hp hm hes hck hle hs hM hC
          go_wp2_with (at_builtin; refine wpList_append_es Tryd.underlying27 hi0 hz0 hz1 hz2 rfl _ rfl (.tmp 31) (.tmp 32) rfl w.heap.size _ C rfl HOW.out _ M F rfl HES.out HLL.out HSZ.out ?_; intro a4 c4 w4 ho4 hk4)
          exact ⟨⟨j + 1, a4, c4, by omega, by go_num, by rw [HCK.out, List.length_append], by rw [HCK.out, List.length_append]; exact ho4.out, HKQ.out.trans hk4.out (fun _ _ h => h)⟩, by simp [RowKit.intOf]; omega⟩
        · obtain rfl : j = k := by omega
          rw [HCN.out] at HOW ⊢
          go_wp2_with fail
          go_ret
          exact ⟨_, rfl, HOW.out.sl, kept_new29 HKQ.out⟩
end Go.Proofs.YtokafgleejcbgaaDoor
