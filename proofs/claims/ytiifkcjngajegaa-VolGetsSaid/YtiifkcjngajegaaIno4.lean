/-
  The chapter's Bytes of an inode. What is got of an inode's bytes, plainly. A block that is a row of extents: made, set, read as a slice. Package inode: Get. Layer 28: InodeChecks. The chapter's inodes: Get. Layer 28: the walk of InodeGets.
-/
import Derived.Test.YtiifkcjngajegaaIno3
import Derived.Test.YtiifkcjngajegaaRef
import Derived.Test.YtiifkcjngajegaaIn
import Derived.Test.YtiifkcjngajegaaInB
import Derived.Test.YtiifkcjngajegaaIno2
import Derived.Test.YtiifkcjngajegaaRef1
namespace Go.Proofs.Ytiifkcjngajegaa
open Go.RowKit
set_option linter.unusedVariables false
set_option linter.unusedSimpArgs false

section
variable {P : Program} (t e : TypeId) (i0 : TypeInfo) (ht : P.underlying t = some (.slice e)) (hi : P.info? e = some i0) (hz0 : i0.zero = some (.int .u8 0)) (hz1 : i0.size = 1) (hz2 : i0.bytes = 1) (he : e = 5)
include ht hi hz0 hz1 hz2 he
theorem wp_append_Own28 (w : World) {o : Oper} {a : Act} {K : Act → World → Prop} {Q : Exit → Act → World → Prop} (s x : Operand)
    (ho : o.op = .call { callee := .builtin .append, args := #[s, x], argTypes := #[t, t] })
    (B : Nat) (v : Value) (l : List Int) (hs : a.eval s = v) (hown : Own w (fun k => B ≤ k) v l) (G : Nat → Prop) (y : Value) (m : List Int) (hx : a.eval x = y) (hy : BSl w G y m) (hl : l.length + m.length ≤ 100000) (hB : B ≤ w.heap.size) (N : Nat) (hN : l.length + m.length = N)
    (h : ∀ a' c' w', Own w' (fun k => B ≤ k) (.slice a' N c') (l ++ m) → Kept (fun k => B ≤ k) w w' → K (a.put o.dst (.slice a' N c')) w') : o.wp P a w K Q := by
  subst hN he
  obtain ⟨v', w', hrun, h2, h3, h4⟩ := run_append_bsl (P := P) w 0 t o.type 5 i0 _ ht hi hz0 hz1 hz2 rfl v l.length l hown.2.1 G y m hy (by omega) (Nat.zero_le _)
  obtain ⟨a', c', rfl⟩ := own_form h2
  obtain ⟨k1, k2⟩ := hown.grow (G := fun k => B ≤ k) hy.isB (fun _ _ h => h) (fun k hk => by omega) h2 h3 h4
  unfold Oper.wp execOp
  simp only [ho, resolve, invoke, builtin, Sem.run_bind, Sem.run_pure, Result.andThen_ok, List.map_toArray, List.map_cons, List.map_nil, hs, hx, hrun]
  exact h a' c' w' k1 k2
/-- append of bytes that are read to a row of bytes of the call's own. -/
theorem wpList_append_Own28 (w : World) {ops : Array Oper} {rest : List Oper} {o : Oper} {a : Act} {Q : Exit → Act → World → Prop} (hgd : o.guard = none) (s x : Operand)
    (ho : o.op = .call { callee := .builtin .append, args := #[s, x], argTypes := #[t, t] })
    (B : Nat) (v : Value) (l : List Int) (hs : a.eval s = v) (hown : Own w (fun k => B ≤ k) v l) (G : Nat → Prop) (y : Value) (m : List Int) (hx : a.eval x = y) (hy : BSl w G y m) (hl : l.length + m.length ≤ 100000) (hB : B ≤ w.heap.size) (N : Nat) (hN : l.length + m.length = N)
    (h : ∀ a' c' w', Own w' (fun k => B ≤ k) (.slice a' N c') (l ++ m) → Kept (fun k => B ≤ k) w w' → wpList P ops Q rest (a.put o.dst (.slice a' N c')) w') : wpList P ops Q (o :: rest) a w :=
  wpList_plain hgd fun K hK => wp_append_Own28 t e i0 ht hi hz0 hz1 hz2 he w s x ho B v l hs hown G y m hx hy hl hB N hN fun a' c' w' h2 h3 => hK _ _ (h a' c' w' h2 h3)
theorem step_append_Own28 (w : World) {ops : Array Oper} {o : Oper} {a : Act} {K : Act → World → Prop} {Q : Exit → Act → World → Prop} {E : Prop} (hgd : o.guard = none) (s x : Operand)
    (ho : o.op = .call { callee := .builtin .append, args := #[s, x], argTypes := #[t, t] })
    (B : Nat) (v : Value) (l : List Int) (hs : a.eval s = v) (hown : Own w (fun k => B ≤ k) v l) (G : Nat → Prop) (y : Value) (m : List Int) (hx : a.eval x = y) (hy : BSl w G y m) (hl : l.length + m.length ≤ 100000) (hB : B ≤ w.heap.size) (N : Nat) (hN : l.length + m.length = N)
    (h : ∀ a' c' w', Own w' (fun k => B ≤ k) (.slice a' N c') (l ++ m) → Kept (fun k => B ≤ k) w w' → K (a.put o.dst (.slice a' N c')) w') :
    if Region.wanted o (yielded ops a.tmps) = true then Oper.wp P o a w K Q else E := by
  have hw : Region.wanted o (yielded ops a.tmps) = true := by simp [Region.wanted, hgd]
  rw [if_pos hw]
  exact wp_append_Own28 t e i0 ht hi hz0 hz1 hz2 he w s x ho B v l hs hown G y m hx hy hl hB N hN h
end
theorem own_one28 (w : World) (x : Int) (h0 : 0 ≤ x) (h1 : x < 256) (B : Nat) (hB : B ≤ w.heap.size) : Own (w.alloc (.cells #[.int .u8 x] 5)) (fun k => B ≤ k) (.slice (some ⟨w.heap.size, 0, none⟩) 1 1) [x] :=
  ⟨fun z hz => by rw [List.mem_singleton] at hz; rw [hz]; exact ⟨h0, h1⟩, ⟨rfl, .inr ⟨w.heap.size, 1, _, rfl, Nat.zero_le _, heap_alloc_new w _, Nat.le_refl _, by decide, rfl, rfl⟩⟩, fun k hk => by
    injection hk with hk
    replace hk : w.heap.size = k := hk
    omega⟩
theorem own_two28 (w : World) (x y : Int) (h0 : 0 ≤ x) (h1 : x < 256) (h2 : 0 ≤ y) (h3 : y < 256) (B : Nat) (hB : B ≤ w.heap.size) : Own (w.alloc (.cells #[.int .u8 x, .int .u8 y] 5)) (fun k => B ≤ k) (.slice (some ⟨w.heap.size, 0, none⟩) 2 2) [x, y] :=
  ⟨fun z hz => by
    rcases List.mem_cons.1 hz with rfl | hz
    · exact ⟨h0, h1⟩
    · rw [List.mem_singleton] at hz; rw [hz]; exact ⟨h2, h3⟩, ⟨rfl, .inr ⟨w.heap.size, 2, _, rfl, Nat.zero_le _, heap_alloc_new w _, Nat.le_refl _, by decide, rfl, rfl⟩⟩, fun k hk => by
    injection hk with hk
    replace hk : w.heap.size = k := hk
    omega⟩
theorem one28 (n : Nat) (h : n < 256) : be n 1 = [(n : Int)] := by simp [be, Nat.mod_eq_of_lt h]
def RbRel (W : World) (hd : List Int) (l : List Xt) (n : Nat) (ov iv : Value) (wr : World) : Prop :=
  ∃ (k : Nat) (a : Option Addr) (c : Nat), k ≤ n ∧ iv = .int .i64 k ∧ ov = .slice a (6 + 4 * k) c ∧ Own wr (fun i => W.heap.size ≤ i) ov (hd ++ bytX (l.take k)) ∧ Kept (fun i => W.heap.size ≤ i) W wr
end Go.Proofs.Ytiifkcjngajegaa
namespace Go.Proofs.Ytiifkcjngajegaa
open Go.RowKit
set_option linter.unusedVariables false

theorem get_be28 {w n : Nat} {t : List Int} (h1 : 1 ≤ w) (h8 : w ≤ 8) (hn : n < 256 ^ w) : (⟨be n w ++ t, 0⟩ : ISt).get (w : Int) = (⟨t, 0⟩, (n : Int)) := by
  have hr : (⟨be n w ++ t, 0⟩ : ISt).raw (w : Int) = (⟨t, 0⟩, be n w) := by
    unfold ISt.raw
    rw [if_pos rfl, if_neg (by omega), if_neg (by rw [List.length_append, be_len]; omega)]
    simp only [Int.toNat_natCast]
    rw [List.drop_left' (be_len n w), List.take_left' (be_len n w)]
  unfold ISt.get
  rw [if_neg (by omega), hr, num_be, Nat.mod_eq_of_lt hn]
theorem upto_be28 {w n : Nat} {most : Int} {t : List Int} (h1 : 1 ≤ w) (h8 : w ≤ 8) (hn : n < 256 ^ w) (hm : (n : Int) ≤ most) : (⟨be n w ++ t, 0⟩ : ISt).upto (w : Int) most = (⟨t, 0⟩, (n : Int)) := by
  have hr : (⟨be n w ++ t, 0⟩ : ISt).raw (w : Int) = (⟨t, 0⟩, be n w) := by
    unfold ISt.raw
    rw [if_pos rfl, if_neg (by omega), if_neg (by rw [List.length_append, be_len]; omega)]
    simp only [Int.toNat_natCast]
    rw [List.drop_left' (be_len n w), List.take_left' (be_len n w)]
  unfold ISt.upto
  rw [if_neg (by omega), hr, if_pos rfl, num_be, Nat.mod_eq_of_lt hn, if_neg (by omega)]
theorem raw_ok28 {s : ISt} {w : Nat} (h : (s.raw (w : Int)).1.err = 0) : s.err = 0 ∧ s.l = (s.raw (w : Int)).2 ++ (s.raw (w : Int)).1.l ∧ (s.raw (w : Int)).2.length = w := by
  by_cases he : s.err = 0
  · by_cases hl : (s.l.length : Int) < (w : Int)
    · have hr : s.raw (w : Int) = (⟨[], 3⟩, []) := by unfold ISt.raw; rw [if_pos he, if_neg (by omega), if_pos hl]
      rw [hr] at h; cases h
    · have hr : s.raw (w : Int) = (⟨s.l.drop w, 0⟩, s.l.take w) := by unfold ISt.raw; rw [if_pos he, if_neg (by omega), if_neg hl, Int.toNat_natCast]
      rw [hr]
      exact ⟨he, (List.take_append_drop w s.l).symm, by rw [List.length_take]; omega⟩
  · have hr : s.raw (w : Int) = (s, []) := by unfold ISt.raw; rw [if_neg he]
    rw [hr] at h; exact absurd h he
theorem get_ok28 {s : ISt} {w : Nat} (hB : IsB s.l) (h1 : 1 ≤ w) (h8 : w ≤ 8) (h : (s.get (w : Int)).1.err = 0) :
    ∃ n : Nat, s.err = 0 ∧ (s.get (w : Int)).2 = (n : Int) ∧ n < 256 ^ w ∧ s.l = be n w ++ (s.get (w : Int)).1.l := by
  have hg : s.get (w : Int) = ((s.raw (w : Int)).1, (num (s.raw (w : Int)).2 : Int)) := by unfold ISt.get; rw [if_neg (by omega)]
  rw [hg] at h ⊢
  obtain ⟨h0, h2, h3⟩ := raw_ok28 h
  have hb : IsB (s.raw (w : Int)).2 := fun z hz => hB z (by rw [h2]; exact List.mem_append_left _ hz)
  refine ⟨num (s.raw (w : Int)).2, h0, rfl, by have := num_lt _ hb; rwa [h3] at this, ?_⟩
  have := be_num _ hb
  rw [h3] at this
  rw [this]
  exact h2
theorem upto_ok28 {s : ISt} {w : Nat} {most : Int} (hB : IsB s.l) (h1 : 1 ≤ w) (h8 : w ≤ 8) (h : (s.upto (w : Int) most).1.err = 0) :
    ∃ n : Nat, s.err = 0 ∧ (s.upto (w : Int) most).2 = (n : Int) ∧ (n : Int) ≤ most ∧ n < 256 ^ w ∧ s.l = be n w ++ (s.upto (w : Int) most).1.l := by
  by_cases hr : (s.raw (w : Int)).1.err = 0
  · by_cases hm : most < (num (s.raw (w : Int)).2 : Int)
    · have hu : s.upto (w : Int) most = (⟨[], 4⟩, 0) := by unfold ISt.upto; rw [if_neg (by omega), if_pos hr, if_pos hm]
      rw [hu] at h; cases h
    · have hu : s.upto (w : Int) most = ((s.raw (w : Int)).1, (num (s.raw (w : Int)).2 : Int)) := by unfold ISt.upto; rw [if_neg (by omega), if_pos hr, if_neg hm]
      rw [hu]
      obtain ⟨h0, h2, h3⟩ := raw_ok28 hr
      have hb : IsB (s.raw (w : Int)).2 := fun z hz => hB z (by rw [h2]; exact List.mem_append_left _ hz)
      refine ⟨num (s.raw (w : Int)).2, h0, rfl, by omega, by have := num_lt _ hb; rwa [h3] at this, ?_⟩
      have := be_num _ hb
      rw [h3] at this
      rw [this]
      exact h2
  · have hu : s.upto (w : Int) most = ((s.raw (w : Int)).1, 0) := by unfold ISt.upto; rw [if_neg (by omega), if_neg hr]
    rw [hu] at h; exact absurd h hr
/-- One extent, so many extents, got. -/
def gx28 (s : ISt) : ISt × Xt := (((s.get 2).1.get 2).1, ((s.get 2).2, ((s.get 2).1.get 2).2))
def gxs28 : Nat → ISt → ISt × List Xt
  | 0, s => (s, [])
  | n + 1, s => ((gx28 (gxs28 n s).1).1, (gxs28 n s).2 ++ [(gx28 (gxs28 n s).1).2])
theorem gxs_len28 (n : Nat) (s : ISt) : (gxs28 n s).2.length = n := by
  induction n with
  | zero => rfl
  | succ n ih => show ((gxs28 n s).2 ++ [_]).length = n + 1; simp [ih]
/-- The reader behind the head. -/
def hm28 (b : List Int) : ISt × Int := (⟨b, 0⟩ : ISt).upto 1 2
def hn28 (b : List Int) : ISt × Int := (hm28 b).1.upto 1 8
def hs28 (b : List Int) : ISt × Int := (hn28 b).1.get 4
def rest28 (b : List Int) : ISt × List Xt := gxs28 (hn28 b).2.toNat (hs28 b).1
/-- What is got of bytes: an error and an inode. -/
def got28 (b : List Int) : Int × Int × Int × List Xt :=
  if b = [] then (0, 0, 0, []) else if (rest28 b).1.done ≠ 0 then ((rest28 b).1.done, 0, 0, [])
  else if chk28 (hm28 b).2 (hs28 b).2 (rest28 b).2 ≠ 0 then (4, 0, 0, []) else (0, (hm28 b).2, (hs28 b).2, (rest28 b).2)
theorem gxs_be28 {l : List Xt} {t : List Int} (h : ∀ e ∈ l, vE e) {k : Nat} (hk : k ≤ l.length) : gxs28 k ⟨bytX l ++ t, 0⟩ = (⟨bytX (l.drop k) ++ t, 0⟩, l.take k) := by
  induction k with
  | zero => rfl
  | succ k ih =>
    have hlt : k < l.length := by omega
    obtain ⟨v1, v2, v3, v4, v5⟩ := h _ (xth_mem hlt)
    have hd : bytX (l.drop k) = be (xth l k).1.toNat 2 ++ (be (xth l k).2.toNat 2 ++ bytX (l.drop (k + 1))) := by
      rw [List.drop_eq_getElem_cons hlt, ← xth_eq hlt]
      unfold bytX
      rw [List.flatMap_cons, List.append_assoc]
    have e1 : (⟨bytX (l.drop k) ++ t, 0⟩ : ISt).get 2 = (⟨be (xth l k).2.toNat 2 ++ (bytX (l.drop (k + 1)) ++ t), 0⟩, (xth l k).1) := by
      rw [hd, List.append_assoc, List.append_assoc]
      have := get_be28 (w := 2) (n := (xth l k).1.toNat) (t := be (xth l k).2.toNat 2 ++ (bytX (l.drop (k + 1)) ++ t)) (by omega) (by omega) (by omega)
      rw [Int.toNat_of_nonneg (by omega)] at this
      exact this
    have e2 : (⟨be (xth l k).2.toNat 2 ++ (bytX (l.drop (k + 1)) ++ t), 0⟩ : ISt).get 2 = (⟨bytX (l.drop (k + 1)) ++ t, 0⟩, (xth l k).2) := by
      have := get_be28 (w := 2) (n := (xth l k).2.toNat) (t := bytX (l.drop (k + 1)) ++ t) (by omega) (by omega) (by omega)
      rw [Int.toNat_of_nonneg (by omega)] at this
      exact this
    show ((gx28 (gxs28 k _).1).1, (gxs28 k _).2 ++ [(gx28 (gxs28 k _).1).2]) = _
    rw [ih (by omega)]
    unfold gx28
    simp only [e1, e2]
    rw [xtake_snoc hlt]
/-- What is put is got. -/
theorem got_put28 {m s : Int} {l : List Xt} (h : chk28 m s l = 0) : got28 (bytI m s l) = (0, m, s, l) := by
  obtain ⟨hm0, hm2, hs0, hs5, ⟨hve, _⟩, hl8⟩ := chk_zero h
  have hb : bytI m s l = be m.toNat 1 ++ (be l.length 1 ++ (be s.toNat 4 ++ (bytX l ++ []))) := by unfold bytI headI; simp only [List.append_assoc, List.append_nil]
  have e1 : hm28 (bytI m s l) = (⟨be l.length 1 ++ (be s.toNat 4 ++ (bytX l ++ [])), 0⟩, m) := by
    have := upto_be28 (w := 1) (n := m.toNat) (most := 2) (t := be l.length 1 ++ (be s.toNat 4 ++ (bytX l ++ []))) (by omega) (by omega) (by omega) (by omega)
    rw [Int.toNat_of_nonneg hm0] at this
    unfold hm28
    rw [hb]
    exact this
  have e2 : hn28 (bytI m s l) = (⟨be s.toNat 4 ++ (bytX l ++ []), 0⟩, (l.length : Int)) := by
    unfold hn28
    rw [e1]
    exact upto_be28 (w := 1) (n := l.length) (most := 8) (t := be s.toNat 4 ++ (bytX l ++ [])) (by omega) (by omega) (by omega) (by omega)
  have e3 : hs28 (bytI m s l) = (⟨bytX l ++ [], 0⟩, s) := by
    have := get_be28 (w := 4) (n := s.toNat) (t := bytX l ++ []) (by omega) (by omega) (by omega)
    rw [Int.toNat_of_nonneg hs0] at this
    unfold hs28
    rw [e2]
    exact this
  have e4 : rest28 (bytI m s l) = (⟨[], 0⟩, l) := by
    unfold rest28
    rw [e2, e3, Int.toNat_natCast, gxs_be28 hve (Nat.le_refl _), List.drop_length, List.take_length]
    rfl
  unfold got28
  rw [if_neg (fun hh => by have := congrArg List.length hh; unfold bytI at this; rw [List.length_append, headI_len] at this; simp at this), e4, e1, e3, if_neg (fun hh => hh rfl), h, if_neg (fun hh => hh rfl)]
theorem gxs_ok28 {n : Nat} {s : ISt} (hB : IsB s.l) (h : (gxs28 n s).1.err = 0) : s.err = 0 ∧ s.l = bytX (gxs28 n s).2 ++ (gxs28 n s).1.l := by
  induction n with
  | zero => exact ⟨h, rfl⟩
  | succ n ih =>
    have h : (((gxs28 n s).1.get 2).1.get 2).1.err = 0 := h
    have hB2 : IsB (gxs28 n s).1.l → IsB ((gxs28 n s).1.get 2).1.l := fun hb z hz => by
      unfold ISt.get at hz
      rw [if_neg (by decide)] at hz
      unfold ISt.raw at hz
      split at hz
      · split at hz
        · cases hz
        · split at hz
          · cases hz
          · exact hb z (List.mem_of_mem_drop hz)
      · exact hb z hz
    have hg : ∀ k, IsB (gxs28 k s).1.l := fun k => by
      induction k with
      | zero => exact hB
      | succ k ihk =>
        have hq : ∀ (r : ISt), IsB r.l → IsB (r.get 2).1.l := fun r hb z hz => by
          unfold ISt.get at hz
          rw [if_neg (by decide)] at hz
          unfold ISt.raw at hz
          split at hz
          · split at hz
            · cases hz
            · split at hz
              · cases hz
              · exact hb z (List.mem_of_mem_drop hz)
          · exact hb z hz
        exact hq _ (hq _ ihk)
    obtain ⟨y, h1, h2, h3, h4⟩ := get_ok28 (w := 2) (hB2 (hg n)) (by omega) (by omega) h
    obtain ⟨x, g1, g2, g3, g4⟩ := get_ok28 (w := 2) (hg n) (by omega) (by omega) h1
    obtain ⟨i1, i2⟩ := ih g1
    refine ⟨i1, ?_⟩
    show s.l = bytX ((gxs28 n s).2 ++ [(((gxs28 n s).1.get 2).2, (((gxs28 n s).1.get 2).1.get 2).2)]) ++ (((gxs28 n s).1.get 2).1.get 2).1.l
    rw [bytX_snoc]
    simp only [show ((gxs28 n s).1.get 2).2 = (x : Int) from g2, show (((gxs28 n s).1.get 2).1.get 2).2 = (y : Int) from h2, Int.toNat_natCast]
    rw [i2]
    have g4 : (gxs28 n s).1.l = be x 2 ++ ((gxs28 n s).1.get 2).1.l := g4
    have h4 : ((gxs28 n s).1.get 2).1.l = be y 2 ++ (((gxs28 n s).1.get 2).1.get 2).1.l := h4
    conv => lhs; rw [g4, h4]
    simp only [List.append_assoc]
theorem isB_get28 {s : ISt} (h : IsB s.l) {w : Nat} (hw : 1 ≤ w ∧ w ≤ 8) : IsB (s.get (w : Int)).1.l := fun z hz => by
  unfold ISt.get at hz
  rw [if_neg (by omega)] at hz
  unfold ISt.raw at hz
  split at hz
  · split at hz
    · cases hz
    · split at hz
      · cases hz
      · exact h z (List.mem_of_mem_drop hz)
  · exact h z hz
theorem isB_upto28 {s : ISt} (h : IsB s.l) {w : Nat} {most : Int} (hw : 1 ≤ w ∧ w ≤ 8) : IsB (s.upto (w : Int) most).1.l := fun z hz => by
  have hraw : IsB (s.raw (w : Int)).1.l := fun z hz => by
    unfold ISt.raw at hz
    split at hz
    · split at hz
      · cases hz
      · split at hz
        · cases hz
        · exact h z (List.mem_of_mem_drop hz)
    · exact h z hz
  unfold ISt.upto at hz
  rw [if_neg (by omega)] at hz
  split at hz
  · split at hz
    · cases hz
    · exact hraw z hz
  · exact hraw z hz
theorem upto_le28 (s : ISt) (w : Int) {most : Int} (hm : 0 ≤ most) : 0 ≤ (s.upto w most).2 ∧ (s.upto w most).2 ≤ most := by
  unfold ISt.upto
  split
  · exact ⟨Int.le_refl _, hm⟩
  · split
    · split
      · exact ⟨Int.le_refl _, hm⟩
      · rename_i h; exact ⟨by show (0 : Int) ≤ (num _ : Int); omega, by show (num _ : Int) ≤ most; omega⟩
    · exact ⟨Int.le_refl _, hm⟩
theorem get_le28 {s : ISt} (hB : IsB s.l) {w : Nat} (h1 : 1 ≤ w) (h8 : w ≤ 8) : 0 ≤ (s.get (w : Int)).2 ∧ (s.get (w : Int)).2 < ((256 ^ w : Nat) : Int) := by
  unfold ISt.get
  rw [if_neg (by omega)]
  by_cases he : s.err = 0
  · by_cases hl : (s.l.length : Int) < (w : Int)
    · have hr : s.raw (w : Int) = (⟨[], 3⟩, []) := by unfold ISt.raw; rw [if_pos he, if_neg (by omega), if_pos hl]
      rw [hr]
      have := Nat.pow_pos (n := w) (show 0 < 256 by decide)
      exact ⟨Int.le_refl _, by show (0 : Int) < _; omega⟩
    · have hr : s.raw (w : Int) = (⟨s.l.drop w, 0⟩, s.l.take w) := by unfold ISt.raw; rw [if_pos he, if_neg (by omega), if_neg hl, Int.toNat_natCast]
      rw [hr]
      have := num_lt _ (hB.take w)
      rw [List.length_take, Nat.min_eq_left (by omega)] at this
      exact ⟨by show (0 : Int) ≤ (num _ : Int); omega, Int.ofNat_lt.2 this⟩
  · have hr : s.raw (w : Int) = (s, []) := by unfold ISt.raw; rw [if_neg he]
    rw [hr]
    have := Nat.pow_pos (n := w) (show 0 < 256 by decide)
    exact ⟨Int.le_refl _, by show (0 : Int) < _; omega⟩
/-- What is got has these bytes. -/
theorem got_bytes28 {b : List Int} {m s : Int} {l : List Xt} (hB : IsB b) (hb : b ≠ []) (h : got28 b = (0, m, s, l)) : chk28 m s l = 0 ∧ bytI m s l = b := by
  unfold got28 at h
  rw [if_neg hb] at h
  by_cases hd : (rest28 b).1.done ≠ 0
  · rw [if_pos hd] at h
    exact absurd (congrArg (·.1) h) hd
  · rw [if_neg hd] at h
    by_cases hc : chk28 (hm28 b).2 (hs28 b).2 (rest28 b).2 ≠ 0
    · rw [if_pos hc] at h
      exact absurd (congrArg (·.1) h) (by show ¬ (4 : Int) = 0; decide)
    · rw [if_neg hc] at h
      simp only [Prod.mk.injEq, true_and] at h
      obtain ⟨h1, h2, h3⟩ := h
      have hc0 : chk28 (hm28 b).2 (hs28 b).2 (rest28 b).2 = 0 := Classical.not_not.1 hc
      have hd0 : (rest28 b).1.err = 0 ∧ (rest28 b).1.l = [] := by
        have hd : (rest28 b).1.done = 0 := Classical.not_not.1 hd
        unfold ISt.done at hd
        by_cases hh : (rest28 b).1.err = 0 ∧ 0 < (rest28 b).1.l.length
        · rw [if_pos hh] at hd; cases hd
        · rw [if_neg hh] at hd
          exact ⟨hd, List.eq_nil_of_length_eq_zero (by have := fun hl => hh ⟨hd, hl⟩; omega)⟩
      have B1 : IsB (hm28 b).1.l := isB_upto28 (s := ⟨b, 0⟩) (w := 1) hB (by omega)
      have B2 : IsB (hn28 b).1.l := isB_upto28 (s := (hm28 b).1) (w := 1) B1 (by omega)
      have B3 : IsB (hs28 b).1.l := isB_get28 (s := (hn28 b).1) (w := 4) B2 (by omega)
      obtain ⟨g0, g1⟩ := gxs_ok28 (n := (hn28 b).2.toNat) B3 hd0.1
      obtain ⟨sn, s0, s1, s2, s3⟩ := get_ok28 (s := (hn28 b).1) (w := 4) B2 (by omega) (by omega) g0
      obtain ⟨nn, n0, n1, n2, n3, n4⟩ := upto_ok28 (s := (hm28 b).1) (w := 1) (most := 8) B1 (by omega) (by omega) s0
      obtain ⟨mn, _, m1, m2, m3, m4⟩ := upto_ok28 (s := ⟨b, 0⟩) (w := 1) (most := 2) hB (by omega) (by omega) n0
      have g1 : (hs28 b).1.l = bytX (rest28 b).2 ++ (rest28 b).1.l := g1
      have s3 : (hn28 b).1.l = be sn 4 ++ (hs28 b).1.l := s3
      have n4 : (hm28 b).1.l = be nn 1 ++ (hn28 b).1.l := n4
      have m4 : b = be mn 1 ++ (hm28 b).1.l := m4
      have m1 : (hm28 b).2 = (mn : Int) := m1
      have n1 : (hn28 b).2 = (nn : Int) := n1
      have s1 : (hs28 b).2 = (sn : Int) := s1
      have hln : (rest28 b).2.length = nn := by
        have := gxs_len28 (hn28 b).2.toNat (hs28 b).1
        rw [n1, Int.toNat_natCast] at this
        unfold rest28
        rw [n1, Int.toNat_natCast]
        exact this
      rw [← h1, ← h2, ← h3]
      refine ⟨hc0, ?_⟩
      unfold bytI headI
      rw [m1, s1, hln, Int.toNat_natCast, Int.toNat_natCast]
      conv => rhs; rw [m4, n4, s3, g1, hd0.2]
      simp only [List.append_assoc, List.append_nil]
end Go.Proofs.Ytiifkcjngajegaa
namespace Go.Proofs.Ytiifkcjngajegaa
open Go.RowKit
set_option linter.unusedVariables false
set_option linter.unusedSimpArgs false

theorem celX_set28 (ps : List Xt) (k : Nat) (hk : k < ps.length) (x : Xt) : celX (ps.set k x) = ((celX ps).set (k * 2) (.int .i64 x.1)).set (k * 2 + 1) (.int .i64 x.2) := by
  induction ps generalizing k with
  | nil => exact absurd hk (by simp)
  | cons p ps ih =>
    have e : ∀ (p : Xt) ps, celX (p :: ps) = [.int .i64 p.1, .int .i64 p.2] ++ celX ps := fun p ps => by unfold celX; rw [List.flatMap_cons]
    cases k with
    | zero => rw [List.set_cons_zero, e, e]; rfl
    | succ k =>
      rw [List.set_cons_succ, e, e, ih k (by simpa using hk)]
      rw [show (k + 1) * 2 = k * 2 + 1 + 1 by omega]
      rfl
/-- Block r is a row of these extents, and no more. -/
def RowX (t : TypeId) (w : World) (r : Nat) (ps : List Xt) : Prop := w.heap[r]? = some (.cells (celX ps).toArray t (0, 0))
theorem RowX.set {t : TypeId} {w : World} {r : Nat} {ps : List Xt} (h : RowX t w r ps) (k : Nat) (hk : k < ps.length) (x : Xt) : RowX t ((w.setCell ⟨r, k * 2, none⟩ (.int .i64 x.1)).setCell ⟨r, k * 2 + 1, none⟩ (.int .i64 x.2)) r (ps.set k x) := by
  have := heap_setCell_same _ r (k * 2 + 1) _ _ (.int .i64 x.2) (heap_setCell_same w r (k * 2) _ _ (.int .i64 x.1) h)
  unfold RowX
  rw [this, celX_set28 ps k hk]
  simp
theorem RowX.at_ {t : TypeId} {w : World} {r : Nat} {ps : List Xt} (h : RowX t w r ps) {j : Nat} (hj : j < ps.length) : w.cell? ⟨r, j * 2, none⟩ = some (.int .i64 (xth ps j).1) ∧ w.cell? ⟨r, j * 2 + 1, none⟩ = some (.int .i64 (xth ps j).2) := by
  obtain ⟨h1, h2⟩ := celX_at hj
  exact ⟨by rw [cell_of_row _ _ _ _ _ _ h, List.getElem?_toArray, h1], by rw [cell_of_row _ _ _ _ _ _ h, List.getElem?_toArray, h2]⟩
theorem RowX.sl {t : TypeId} {w : World} {r c : Nat} {ps : List Xt} {F : Nat → Prop} (h : RowX t w r ps) (hF : F r) (hc : ps.length ≤ c) (hm : c ≤ maxLen) : XSl w F (.slice (some ⟨r, 0, none⟩) ps.length c) ps :=
  ⟨_, c, rfl, hc, hm, (fun h => by cases h), fun _ => ⟨r, 0, rfl, hF, heap_lt h, fun j hj => by
    have := h.at_ hj
    rw [Nat.zero_add]
    exact this⟩⟩
theorem made_celX (n : Nat) : (madeCells (#[.int .i64 0, .int .i64 0] : Array Value) (n * 2)).toList = celX (List.replicate n (0, 0)) := by
  refine List.ext_getElem? (fun m => ?_)
  have hl : (celX (List.replicate n ((0, 0) : Xt))).length = n * 2 := by rw [celX_len, List.length_replicate]
  by_cases hm : m < n * 2
  · have h1 : (madeCells (#[.int .i64 0, .int .i64 0] : Array Value) (n * 2)).toList[m]? = some ((#[.int .i64 0, .int .i64 0] : Array Value)[m % 2]!) := by
      unfold madeCells
      simp [hm]
    rw [h1]
    obtain ⟨h2, h3⟩ := celX_at (l := List.replicate n ((0, 0) : Xt)) (i := m / 2) (by rw [List.length_replicate]; omega)
    have hx : xth (List.replicate n ((0, 0) : Xt)) (m / 2) = (0, 0) := by rw [xth_eq (by rw [List.length_replicate]; omega)]; simp
    rw [hx] at h2 h3
    by_cases hp : m % 2 = 0
    · rw [show m / 2 * 2 = m by omega] at h2
      rw [h2, hp]; rfl
    · rw [show m / 2 * 2 + 1 = m by omega] at h3
      rw [h3, show m % 2 = 1 by omega]; rfl
  · rw [List.getElem?_eq_none (by rw [Array.length_toList, size_madeCells]; omega), List.getElem?_eq_none (by rw [hl]; omega)]
/-- What make gives. -/
theorem RowX.made {t : TypeId} {w : World} {B n g : Nat} (h : w.ownsRow B t 2 (.slice (some ⟨g, 0, none⟩) n n) n (madeCells (#[.int .i64 0, .int .i64 0] : Array Value) (n * 2)).toList) : RowX t w g (List.replicate n (0, 0)) := by
  rcases h.2 with ⟨hv, _⟩ | ⟨g', cap, cur, hv, hb, hr, hc, hm, hs, ht⟩
  · cases hv
  · injection hv with hv hn hcap
    injection hv with hv
    injection hv with hv _ _
    subst hv hcap
    unfold RowX
    rw [hr]
    have e : cur.toList = celX (List.replicate n (0, 0)) := by
      have h1 := List.take_of_length_le (l := cur.toList) (i := n * 2) (by simp [hs])
      exact (h1.symm.trans ht).trans (made_celX n)
    rw [← e]
end Go.Proofs.Ytiifkcjngajegaa
namespace Go.Proofs.Ytiifkcjngajegaa
open Go.RowKit
set_option linter.unusedVariables false

def GetRel (B : World) (F : Nat → Prop) (g r n : Nat) (s : ISt) (xg : Nat) (m sv : Int) (iv : Value) (wr : World) : Prop :=
  ∃ (k : Nat) (ps : List Xt), k ≤ n ∧ iv = .int .i64 k ∧ ps.length = n ∧ ps.take k = (gxs28 k s).2 ∧ RowX 74 wr r ps ∧ InAt wr F g (gxs28 k s).1 ∧ IAt 26 wr xg m sv (.slice (some ⟨r, 0, none⟩) n n) ∧ Kept (fun i => B.heap.size ≤ i) B wr
set_option maxRecDepth 100000 in
set_option maxHeartbeats 20000000 in
theorem iGet_some (v : Value) (b : List Int) (F : Nat → Prop) (w : World) (h : BSl w F v b) (hl : b.length ≤ 1000000) (hb : b.length ≠ 0) :
    Calls Try.prog 9 #[v] w (IRes (got28 b).1 (got28 b).2.1 (got28 b).2.2.1 (got28 b).2.2.2 w) := by
  obtain ⟨i0, hi0, hz0, hz1, hz2⟩ := info_parts info_xt
  obtain ⟨a, cap, rfl, _⟩ := id h
  have hbz2 : ((b.length : Int) == 0) = false := by simpa using hb
  have hIB := h.isB
  have hB := Lib.hid h
  obtain ⟨p1, hp1⟩ : ∃ p, p = hm28 b := ⟨_, rfl⟩
  obtain ⟨p2, hp2⟩ : ∃ p, p = hn28 b := ⟨_, rfl⟩
  obtain ⟨p3, hp3⟩ : ∃ p, p = hs28 b := ⟨_, rfl⟩
  have q2 : p2 = p1.1.upto 1 8 := by rw [hp2, hp1]; rfl
  have q3 : p3 = p2.1.get 4 := by rw [hp3, hp2]; rfl
  have Q1 : Hid (p1 = (⟨b, 0⟩ : ISt).upto 1 2) := Lib.hid (by rw [hp1]; rfl)
  have Q2 := Lib.hid q2
  have Q3 := Lib.hid q3
  have HG : Hid (got28 b = (if (gxs28 p2.2.toNat p3.1).1.done ≠ 0 then ((gxs28 p2.2.toNat p3.1).1.done, 0, 0, []) else if chk28 p1.2 p3.2 (gxs28 p2.2.toNat p3.1).2 ≠ 0 then (4, 0, 0, []) else (0, p1.2, p3.2, (gxs28 p2.2.toNat p3.1).2))) := Lib.hid (by
    unfold got28
    rw [if_neg (fun h => hb (by rw [h]; rfl)), hp1, hp2, hp3]; rfl)
  clear hp1 hp2 hp3 q2 q3
  obtain ⟨S1, mv⟩ := p1
  obtain ⟨S2, nv⟩ := p2
  obtain ⟨S3, sv⟩ := p3
  simp only at Q2 Q3 HG
  have HU1 := Lib.hid (fun g F w (h : InAt w F g ⟨b, 0⟩) => Upto_any g ⟨b, 0⟩ 1 2 F w h (by decide))
  have HU2 := Lib.hid (fun g F w (h : InAt w F g S1) => Upto_any g S1 1 8 F w h (by decide))
  have HU3 := Lib.hid (fun g F w (h : InAt w F g S2) => Get_any g S2 4 F w h)
  rw [← Q1.out] at HU1
  rw [← Q2.out] at HU2
  rw [← Q3.out] at HU3
  simp only at HU1 HU2 HU3
  have hmr : 0 ≤ mv ∧ mv ≤ 2 := by have := upto_le28 ⟨b, 0⟩ 1 (most := 2) (by decide); rw [← Q1.out] at this; exact this
  have hnr : 0 ≤ nv ∧ nv ≤ 8 := by have := upto_le28 S1 1 (most := 8) (by decide); rw [← Q2.out] at this; exact this
  have hB1 : IsB S1.l := by have := isB_upto28 (s := ⟨b, 0⟩) (w := 1) (most := 2) hIB (by omega); rw [show (((1 : Nat) : Int)) = 1 from rfl, ← Q1.out] at this; exact this
  have hB2 : IsB S2.l := by have := isB_upto28 (s := S1) (w := 1) (most := 8) hB1 (by omega); rw [show (((1 : Nat) : Int)) = 1 from rfl, ← Q2.out] at this; exact this
  have hsr : 0 ≤ sv ∧ sv < 4294967296 := by have := get_le28 (s := S2) (w := 4) hB2 (by omega) (by omega); rw [show (((4 : Nat) : Int)) = 4 from rfl, ← Q3.out] at this; exact this
  obtain ⟨nn, rfl⟩ := Int.eq_ofNat_of_zero_le hnr.1
  rw [Int.toNat_natCast] at HG
  have hn8 : nn ≤ 8 := by omega
  have hwm : IntKind.i64.wrap mv = mv := IntWalk.i64_in _ (by omega)
  have hws : IntKind.i64.wrap sv = sv := IntWalk.i64_in _ (by omega)
  have hwn : IntKind.i64.wrap (nn : Int) = (nn : Int) := IntWalk.i64_in _ (by omega)
  clear h hb hIB
  go_enter Try.func9, Try.ntmps9
  go_wp2_with (first
    | (go_at_call 39; refine (Of_any _ b F _ (hB.out.kept ((Kept.refl NoB w).alloc _) (fun _ _ h => h)) hl).mono ?_; rintro e w1 ⟨g, rfl, hg1, hg2, hin, hk⟩; have HI := Lib.hid hin; have HK1 := Lib.hid hk; clear hin hk)
    | (have hm := HM2; clear hm; go_at_call 40; refine (HU2.out _ _ _ HI.out).mono ?_; rintro e w3 ⟨rfl, hin, hk⟩; replace HI := Lib.hid hin; clear hin; have HK3 := Lib.hid hk; clear hk HM2)
    | (go_at_call 40; refine (HU1.out _ _ _ HI.out).mono ?_; rintro e w2 ⟨rfl, hin, hk⟩; replace HI := Lib.hid hin; clear hin; have HK2 := Lib.hid hk; clear hk; have HM2 := Lib.hid trivial)
    | (at_make; refine wpList_make_full _ rfl (.tmp 20) (.tmp 20) 24 rfl w3.heap.size 74 i0 _ 2 Try.underlying24 hi0 hz0 hz1 .u64 .u64 _ _ nn rfl rfl rfl rfl (by rw [hz2]; omega) (by unfold maxLen; omega) (Nat.le_refl _) ?_; intro w4 hown hgrow; have HOW := Lib.hid hown; have hkm : Kept NoB w3 w4 := (Kept.refl NoB w3).grown hgrow (fun k hk => by cases hk); have HKM := Lib.hid hkm; replace HI := Lib.hid (HI.out.kept hkm (fun _ _ h => h) (fun h => h)); clear hown hgrow hkm)
    | (go_at_call 41; refine (HU3.out _ _ _ HI.out).mono ?_; rintro e w5 ⟨rfl, hin, hk⟩; replace HI := Lib.hid hin; clear hin; have HK5 := Lib.hid hk; clear hk))
  have hz1s := HK1.out.size
  have hz2s := HK2.out.size
  have hz3s := HK3.out.size
  have hz4s := HKM.out.size
  have hz5s := HK5.out.size
  rw [show (w.alloc (.cells #[.int .i64 0, .int .i64 0, .slice none 0 0] 26)).heap.size = w.heap.size + 1 by simp] at hz1s hg1
  obtain ⟨W0, hW0⟩ : ∃ W0, W0 = w.alloc (.cells #[.int .i64 0, .int .i64 0, .slice none 0 0] 26) := ⟨_, rfl⟩
  have hW0s : W0.heap.size = w.heap.size + 1 := by rw [hW0]; simp
  rw [← hW0] at HK1 HI
  have hk06 : Kept (fun i => W0.heap.size ≤ i) W0 (w5.alloc (.cells #[.int .i64 mv, .int .i64 sv, .slice (some ⟨w3.heap.size, 0, none⟩) nn nn] 26)) := by
    have k2 := (HK1.out.mono (T := fun i => W0.heap.size ≤ i) (fun _ _ h => h.elim)).trans HK2.out (fun i hi h => by have h : i = g := h; omega)
    have k3 := k2.trans HK3.out (fun i hi h => by have h : i = g := h; omega)
    have k4 := k3.trans HKM.out (fun i hi h => h.elim)
    exact (k4.trans HK5.out (fun i hi h => by have h : i = g := h; omega)).alloc _
  have hrow : RowX 74 (w5.alloc (.cells #[.int .i64 mv, .int .i64 sv, .slice (some ⟨w3.heap.size, 0, none⟩) nn nn] 26)) w3.heap.size (List.replicate nn (0, 0)) := by
    have h0 := RowX.made HOW.out
    unfold RowX at h0 ⊢
    exact ((Kept.refl NoB w5).alloc _).heap (fun h => h) (HK5.out.heap (fun h => by have h : w3.heap.size = g := h; omega) h0)
  have hin6 := HI.out.kept ((Kept.refl NoB w5).alloc (.cells #[.int .i64 mv, .int .i64 sv, .slice (some ⟨w3.heap.size, 0, none⟩) nn nn] 26)) (fun _ _ h => h) (fun h => h)
  have hat6 := IAt.new 26 w5 mv sv (.slice (some ⟨w3.heap.size, 0, none⟩) nn nn)
  obtain ⟨FI, hFI⟩ : ∃ FI : Nat → Prop, FI = (fun k => W0.heap.size ≤ k ∧ k < g) := ⟨_, rfl⟩
  rw [← hFI] at hin6
  have HFI : Hid (∀ k, FI k → W0.heap.size ≤ k ∧ k < g) := Lib.hid (fun k h => by rw [hFI] at h; exact h)
  obtain ⟨r, hr⟩ : ∃ r, r = w3.heap.size := ⟨_, rfl⟩
  obtain ⟨xg, hxg⟩ : ∃ xg, xg = w5.heap.size := ⟨_, rfl⟩
  have hrg : g < r := by omega
  have hxr : r < xg := by have := heap_lt (show w4.heap[w3.heap.size]? = _ from RowX.made HOW.out); omega
  rw [← hr] at hk06 hrow hin6 hat6 ⊢
  rw [← hxg] at hat6 ⊢
  have H0 : Hid (GetRel W0 FI g r nn S3 xg mv sv (.int .i64 0) (w5.alloc (.cells #[.int .i64 mv, .int .i64 sv, .slice (some ⟨r, 0, none⟩) nn nn] 26))) := Lib.hid ⟨0, _, Nat.zero_le _, rfl, List.length_replicate, rfl, hrow, hin6, hat6, hk06⟩
  have hgW : W0.heap.size ≤ g := by omega
  have HRC := Lib.hid (show W0.heap.size ≤ r by omega)
  have HW0 := Lib.hid hW0
  clear hk06 hrow hin6 hat6 hFI HI HOW HKM HK1 HK2 HK3 HK5 hr hxg hW0
  go_loopw [8, 30] (fun _ i wr => GetRel W0 FI g r nn S3 xg mv sv i wr) (fun _ i _ => nn - (RowKit.intOf i).toNat)
  case atStart => exact H0.out
  case round =>
    obtain ⟨k, ps, hk, rfl, hpl, htk, hrow, hi, hat, hK⟩ := hrel
    have hk0 : (0 : Int) ≤ (k : Int) := by omega
    have HPL := Lib.hid hpl
    have HTK := Lib.hid htk
    have HRW := Lib.hid hrow
    have HI0 := Lib.hid hi
    have HAT := Lib.hid hat
    have HK := Lib.hid hK
    by_cases hlt : k < nn
    · have hk1 : (k : Int) < (nn : Int) := by omega
      have HG1 : Hid (gxs28 (k + 1) S3 = ((gx28 (gxs28 k S3).1).1, (gxs28 k S3).2 ++ [(gx28 (gxs28 k S3).1).2])) := Lib.hid rfl
      obtain ⟨t0, ht0⟩ : ∃ t, t = (gxs28 k S3).1 := ⟨_, rfl⟩
      rw [← ht0] at HG1 HI0
      have hB0 : IsB t0.l := by obtain ⟨_, _, _, _, hb⟩ := HI0.out; exact hb.isB
      obtain ⟨t1, ht1⟩ : ∃ t, t = (t0.get 2).1 := ⟨_, rfl⟩
      obtain ⟨v1, hv1⟩ : ∃ v, v = (t0.get 2).2 := ⟨_, rfl⟩
      obtain ⟨t2, ht2⟩ : ∃ t, t = (t1.get 2).1 := ⟨_, rfl⟩
      obtain ⟨v2, hv2⟩ : ∃ v, v = (t1.get 2).2 := ⟨_, rfl⟩
      have HGX : Hid (gx28 t0 = (t2, (v1, v2))) := Lib.hid (by unfold gx28; rw [← ht1, ← ht2, ← hv1, ← hv2])
      have hB1 : IsB t1.l := by have := isB_get28 (w := 2) hB0 (by omega); rw [show (((2 : Nat) : Int)) = 2 from rfl, ← ht1] at this; exact this
      have hb1 : 0 ≤ v1 ∧ v1 < 65536 := by have := get_le28 (w := 2) hB0 (by omega) (by omega); rw [show (((2 : Nat) : Int)) = 2 from rfl, ← hv1] at this; exact this
      have hb2 : 0 ≤ v2 ∧ v2 < 65536 := by have := get_le28 (w := 2) hB1 (by omega) (by omega); rw [show (((2 : Nat) : Int)) = 2 from rfl, ← hv2] at this; exact this
      have hw1 : IntKind.i64.wrap v1 = v1 := IntWalk.i64_in _ (by omega)
      have hw2 : IntKind.i64.wrap v2 = v2 := IntWalk.i64_in _ (by omega)
      have HC0 : Hid (∀ w', InAt w' FI g t0 → Calls Try.prog 41 #[.pointer (some ⟨g, 0, none⟩), .int .i64 2] w' fun r w'' => r = .returned (.int .u64 v1) ∧ InAt w'' FI g t1 ∧ Kept (Only g) w' w'') := Lib.hid (fun w' h => by rw [hv1, ht1]; exact Get_any g t0 2 FI w' h)
      have HC1 : Hid (∀ w', InAt w' FI g t1 → Calls Try.prog 41 #[.pointer (some ⟨g, 0, none⟩), .int .i64 2] w' fun r w'' => r = .returned (.int .u64 v2) ∧ InAt w'' FI g t2 ∧ Kept (Only g) w' w'') := Lib.hid (fun w' h => by rw [hv2, ht2]; exact Get_any g t1 2 FI w' h)
      clear hpl htk hrow hi hat hK ht0 hB0 hB1 ht1 ht2 hv1 hv2
      go_wp2_with fail
      refine (HC0.out wr HI0.out).mono ?_
      rintro e g1 ⟨rfl, hi1, hk1'⟩
      have HIx1 := Lib.hid hi1
      have HKx1 := Lib.hid hk1'
      clear hi1 hk1'
      go_wp2_with fail
      refine (HC1.out g1 HIx1.out).mono ?_
      rintro e g2 ⟨rfl, hi2, hk2'⟩
      have HIx2 := Lib.hid hi2
      have HKx2 := Lib.hid (HKx1.out.trans hk2' (fun _ _ h => h))
      have HR2 : Hid (RowX 74 g2 r ps) := Lib.hid (HKx2.out.heap (fun h => by have h : r = g := h; omega) HRW.out)
      obtain ⟨z0, z1⟩ := HR2.out.at_ (j := k) (by rw [HPL.out]; exact hlt)
      have fz0 := frz3 HR2.out (k * 2)
      have fz1 := frz3 HR2.out (k * 2 + 1)
      have HSET := Lib.hid (HR2.out.set k (by rw [HPL.out]; exact hlt) (v1, v2))
      clear hi2 hk2'
      go_wp2_with fail
      have hS : Kept (fun i => i = r) g2 ((g2.setCell ⟨r, k * 2, none⟩ (.int .i64 v1)).setCell ⟨r, k * 2 + 1, none⟩ (.int .i64 v2)) :=
        ((Kept.refl (fun i => i = r) g2).setCell (p := ⟨r, k * 2, none⟩) (.inl (by show r = r; rfl)) _).setCell (p := ⟨r, k * 2 + 1, none⟩) (.inl (by show r = r; rfl)) _
      refine ⟨⟨k + 1, ps.set k (v1, v2), by omega, by go_num, by rw [List.length_set, HPL.out], ?_, HSET.out, ?_, (HAT.out.kept HKx2.out (fun h => by have h : xg = g := h; omega)).kept hS (fun h => by have h : xg = r := h; omega), (HK.out.trans HKx2.out (fun i _ h => by have h : i = g := h; omega)).trans hS (fun i hi h => by have h : i = r := h; have := HRC.out; omega)⟩, by simp [RowKit.intOf]; omega⟩
      · rw [HG1.out, HGX.out]
        show List.take (k + 1) (ps.set k (v1, v2)) = (gxs28 k S3).2 ++ [(v1, v2)]
        rw [← HTK.out, List.take_succ_eq_append_getElem (by rw [List.length_set, HPL.out]; exact hlt), List.take_set_of_le (Nat.le_refl _)]
        simp
      · rw [HG1.out, HGX.out]
        exact HIx2.out.kept hS (fun i hi h => by have h : i = r := h; have := HFI.out i hi; omega) (fun h => by have h : g = r := h; omega)
    · obtain rfl : k = nn := by omega
      replace htk : ps = (gxs28 k S3).2 := by rw [← htk, List.take_of_length_le (by omega)]
      obtain ⟨s2, hs2⟩ : ∃ s2, s2 = (gxs28 k S3).1 := ⟨_, rfl⟩
      rw [← htk, ← hs2] at HG
      rw [← hs2] at HI0
      have hxs : XSl wr (fun i => i = r) (.slice (some ⟨r, 0, none⟩) k k) ps := by
        have := HRW.out.sl (F := fun i => i = r) (c := k) rfl (by omega) (by unfold maxLen; omega)
        rwa [hpl] at this
      have HXS := Lib.hid hxs
      have hbx : IAt 26 wr w.heap.size 0 0 (.slice none 0 0) := (show IAt _ W0 w.heap.size 0 0 _ by rw [HW0.out]; exact IAt.new _ w 0 0 _).kept HK.out (fun h => by have h : W0.heap.size ≤ w.heap.size := h; omega)
      have HBX := Lib.hid hbx
      have hkw : Kept NoB w wr := ((Kept.refl NoB w).alloc (.cells #[.int .i64 0, .int .i64 0, .slice none 0 0] 26)).trans (show Kept (fun i => W0.heap.size ≤ i) _ wr by rw [← HW0.out]; exact HK.out) (fun i hi h => absurd h (by omega))
      have HKW := Lib.hid hkw
      have HDN := Lib.hid (InDone_any g s2 FI wr HI0.out)
      obtain ⟨q0, q1, q2⟩ := hbx.cells
      have f0 := frz3 hbx 0
      have f1 := frz3 hbx 1
      have f2 := frz3 hbx 2
      obtain ⟨c0, c1, c2⟩ := HAT.out.cells
      obtain ⟨dn, hdn⟩ : ∃ d, d = s2.done := ⟨_, rfl⟩
      rw [← hdn] at HG HDN
      have hrr := HRC.out
      clear hxs hbx hkw hpl htk hrow hi hat hK hs2 hdn
      by_cases hd : dn = 0
      · rw [if_neg (fun h => h hd)] at HG
        rw [hd] at HDN
        have HCH := Lib.hid (iCheck_any mv sv _ ps _ wr HXS.out (by omega) (by omega))
        by_cases hc : chk28 mv sv ps = 0
        · rw [if_neg (fun h => h hc)] at HG
          rw [hc] at HCH
          clear hd hc
          go_wp2_with (first
            | (go_at_call 42; refine HDN.out.mono ?_; rintro e w9 ⟨rfl, rfl⟩)
            | (go_at_call 43; refine HCH.out.mono ?_; rintro e w9 ⟨rfl, hk⟩; have HB9 := Lib.hid (HBX.out.no hk); have HX9 := Lib.hid (HXS.out.no hk); have HK9 := Lib.hid (HKW.out.trans hk (fun _ _ h => h)); clear q0 q1 q2 f0 f1 f2 c0 c1 c2; obtain ⟨q0, q1, q2⟩ := HB9.out.cells; have f0 := frz3 HB9.out 0; have f1 := frz3 HB9.out 1; have f2 := frz3 HB9.out 2; obtain ⟨c0, c1, c2⟩ := (HAT.out.no hk).cells; clear hk))
          obtain ⟨r0, r1, r2⟩ := cells3 (set3_heap HB9.out (.int .i64 mv) (.int .i64 sv) (.slice (some ⟨r, 0, none⟩) k k))
          exact bodyPost_ret (v := .tuple #[iv28 mv sv (.slice (some ⟨r, 0, none⟩) k k), .int .i64 0]) (by simp [results, Try.results9, go_sem, r0, r1, r2]) rfl (by rw [HG.out]; exact IRes.mk rfl ((HX9.out.kept (set3_kept _ w.heap.size _ _ _) (fun i _ hi he => by omega)).mono (fun i _ hi => by omega)) (HK9.out.trans (set3_kept _ w.heap.size _ _ _) (fun i hi he => absurd hi (by omega))))
        · rw [if_pos hc] at HG
          have hne : (chk28 mv sv ps != 0) = true := bne_iff_ne.2 hc
          obtain ⟨er, her⟩ : ∃ er, er = chk28 mv sv ps := ⟨_, rfl⟩
          rw [← her] at HCH hne
          clear hd hc her
          go_wp2_with (first
            | (go_at_call 42; refine HDN.out.mono ?_; rintro e w9 ⟨rfl, rfl⟩)
            | (go_at_call 43; refine HCH.out.mono ?_; rintro e w9 ⟨rfl, hk⟩; have HB9 := Lib.hid (HBX.out.no hk); have HK9 := Lib.hid (HKW.out.trans hk (fun _ _ h => h)); clear q0 q1 q2 f0 f1 f2 c0 c1 c2; obtain ⟨q0, q1, q2⟩ := HB9.out.cells; have f0 := frz3 HB9.out 0; have f1 := frz3 HB9.out 1; have f2 := frz3 HB9.out 2; clear hk))
          obtain ⟨r0, r1, r2⟩ := cells3 (set3_heap HB9.out (.int .i64 0) (.int .i64 0) (.slice none 0 0))
          exact bodyPost_ret (v := .tuple #[iv28 0 0 (.slice none 0 0), .int .i64 4]) (by simp [results, Try.results9, go_sem, r0, r1, r2]) rfl (by rw [HG.out]; exact IRes.zero rfl (HK9.out.trans (set3_kept _ w.heap.size _ _ _) (fun i hi he => absurd hi (by omega))))
      · rw [if_pos hd] at HG
        have hne : (dn != 0) = true := bne_iff_ne.2 hd
        clear hd
        go_wp2_with (go_at_call 42; refine HDN.out.mono ?_; rintro e w9 ⟨rfl, rfl⟩)
        obtain ⟨r0, r1, r2⟩ := cells3 (set3_heap HBX.out (.int .i64 0) (.int .i64 0) (.slice none 0 0))
        exact bodyPost_ret (v := .tuple #[iv28 0 0 (.slice none 0 0), .int .i64 dn]) (by simp [results, Try.results9, go_sem, r0, r1, r2]) rfl (by rw [HG.out]; exact IRes.zero rfl (HKW.out.trans (set3_kept _ w.heap.size _ _ _) (fun i hi he => absurd hi (by omega))))
set_option maxRecDepth 100000 in
theorem iGet_any (v : Value) (b : List Int) (F : Nat → Prop) (w : World) (h : BSl w F v b) (hl : b.length ≤ 1000000) :
    Calls Try.prog 9 #[v] w (IRes (got28 b).1 (got28 b).2.1 (got28 b).2.2.1 (got28 b).2.2.2 w) := by
  by_cases hb : b.length = 0
  · obtain ⟨a, cap, rfl, _⟩ := h
    obtain rfl : b = [] := List.eq_nil_of_length_eq_zero hb
    have hg : got28 [] = (0, 0, 0, []) := by unfold got28; rw [if_pos rfl]
    rw [hg]
    have HK0 := Lib.hid ((Kept.refl NoB w).alloc (.cells #[.int .i64 0, .int .i64 0, .slice none 0 0] 26))
    have HB := Lib.hid (IAt.new 26 w 0 0 (.slice none 0 0))
    obtain ⟨c0, c1, c2⟩ := HB.out.cells
    have f0 := frz3 HB.out 0
    have f1 := frz3 HB.out 1
    have f2 := frz3 HB.out 2
    clear hb hg hl
    go_enter Try.func9, Try.ntmps9
    go_wp2_with fail
    first
      | exact bodyPost_ret (v := .tuple #[iv28 0 0 (.slice none 0 0), .int .i64 0]) (by simp [results, Try.results9, go_sem, c0, c1, c2]) rfl (IRes.zero rfl HK0.out)
      | (obtain ⟨r0, r1, r2⟩ := cells3 (set3_heap HB.out (.int .i64 0) (.int .i64 0) (.slice none 0 0))
         exact bodyPost_ret (v := .tuple #[iv28 0 0 (.slice none 0 0), .int .i64 0]) (by simp [results, Try.results9, go_sem, r0, r1, r2]) rfl (IRes.zero rfl (HK0.out.trans (set3_kept _ w.heap.size _ _ _) (fun i hi he => absurd hi (by omega)))))
  · exact iGet_some v b F w h hl hb
end Go.Proofs.Ytiifkcjngajegaa
namespace Go.Proofs.Ytiifkcjngajegaa
open Go.RowKit
set_option linter.unusedVariables false

end Go.Proofs.Ytiifkcjngajegaa
namespace Go.Proofs.Ytiifkcjngajegaa
open Go.RowKit
set_option linter.unusedVariables false

/-- A reader in a block of its own. -/
def RBox (w : World) (F : Nat → Prop) (g : Nat) (a : Option Addr) (n c : Nat) (er : Int) (s : ISt) : Prop := n = s.l.length ∧ er = s.err ∧ w.heap[g]? = some (.cells #[.slice a n c, .int .i64 er] 85 (0, 0)) ∧ RAt w F (.agg #[.slice a n c, .int .i64 er]) s
theorem RBox.kept {S F : Nat → Prop} {w w' : World} {g n c : Nat} {a : Option Addr} {er : Int} {s : ISt} (h : RBox w F g a n c er s) (hk : Kept S w w') (hs : ∀ k, F k → ¬ S k) (hg : ¬ S g) : RBox w' F g a n c er s :=
  ⟨h.1, h.2.1, hk.heap hg h.2.2.1, h.2.2.2.kept hk hs⟩
theorem rat_form {w : World} {F : Nat → Prop} {v : Value} {s : ISt} (h : RAt w F v s) : ∃ a n c er, v = .agg #[.slice a n c, .int .i64 er] ∧ n = s.l.length ∧ er = s.err := by
  obtain ⟨_, b, rfl, a, c, rfl, _⟩ := h
  exact ⟨a, _, c, _, rfl, rfl, rfl⟩
theorem set2_heap {w : World} {g : Nat} {x y : Value} {t : TypeId} (h : w.heap[g]? = some (.cells #[x, y] t (0, 0))) (a b : Value) :
    ((w.setCell ⟨g, 0, none⟩ a).setCell ⟨g, 1, none⟩ b).heap[g]? = some (.cells #[a, b] t (0, 0)) := by
  have h1 := heap_setCell_same w g 0 _ _ a h
  rw [heap_setCell_same _ g 1 _ _ b h1]; rfl
theorem set2_kept (w : World) (g : Nat) (a b : Value) : Kept (fun k => k = g) w ((w.setCell ⟨g, 0, none⟩ a).setCell ⟨g, 1, none⟩ b) :=
  ((Kept.refl (fun i => i = g) w).setCell (p := ⟨g, 0, none⟩) (.inl rfl) _).setCell (p := ⟨g, 1, none⟩) (.inl rfl) _
theorem cells2r {w : World} {b : Nat} {x y : Value} {t : TypeId} (h : w.heap[b]? = some (.cells #[x, y] t (0, 0))) :
    w.cell? ⟨b, 0, none⟩ = some x ∧ w.cell? ⟨b, 1, none⟩ = some y ∧ w.frozen? ⟨b, 0, none⟩ = false ∧ w.frozen? ⟨b, 1, none⟩ = false :=
  ⟨cell_of_row _ _ 0 _ _ _ h, cell_of_row _ _ 1 _ _ _ h, by simp [World.frozen?, h], by simp [World.frozen?, h]⟩
/-- What is laid into a reader's block. -/
theorem RBox.set {w : World} {F : Nat → Prop} {g n n' c c' : Nat} {a a' : Option Addr} {er er' : Int} {s s' : ISt} (h : RBox w F g a n c er s) (hv : RAt w F (.agg #[.slice a' n' c', .int .i64 er']) s') (hF : ∀ k, F k → k ≠ g) :
    RBox ((w.setCell ⟨g, 0, none⟩ (.slice a' n' c')).setCell ⟨g, 1, none⟩ (.int .i64 er')) F g a' n' c' er' s' := by
  obtain ⟨_, b, hb, hbb⟩ := id hv
  obtain ⟨b1, b2, rfl, _⟩ := hbb
  injection hb with hb
  have := congrArg Array.toList hb
  simp only [List.cons.injEq, Value.slice.injEq, Value.int.injEq, true_and, and_true] at this
  obtain ⟨⟨_, h2, _⟩, h4⟩ := this
  exact ⟨h2, h4, set2_heap h.2.2.1 _ _, hv.kept (set2_kept w g _ _) (fun k hk he => hF k hk he)⟩
theorem own_rbox {te : TypeId} {F : Nat → Prop} {wr W w3 : World} {B gi n c : Nat} {v : Value} {L : List Xt} {a : Option Addr} {er : Int} {s : ISt} (HO : XOwn te B wr v L) (hte : te ≠ 85) (hF : ∀ k, F k → k < B) (hkW : Kept NoB wr W) (hg : W.grownBy w3 v.ownBlock) (h : RBox wr F gi a n c er s) : RBox w3 F gi a n c er s := by
  have ne := own_ne HO h.2.2.1 hte
  have hk : Kept (fun b => some b = v.ownBlock) wr w3 := (hkW.mono (fun _ _ h => h.elim)).grown hg (fun b hb => .inl hb.symm)
  exact h.kept hk (fun k hk he => by have := (World.ownsRow.lt HO k he.symm).1; have := hF k hk; omega) ne
def RGetRel (F : Nat → Prop) (w : World) (gi gx nn : Nat) (S3 : ISt) (mv sv : Int) (iv : Value) (wr : World) : Prop :=
  ∃ (k : Nat) (a : Option Addr) (n c : Nat) (er : Int) (xa : Option Addr) (xc : Nat), k ≤ nn ∧ iv = .int .u64 k ∧ RBox wr F gi a n c er (gxs28 k S3).1 ∧ IAt 32 wr gx mv sv (.slice xa (gxs28 k S3).2.length xc) ∧ XOwn 73 w.heap.size wr (.slice xa (gxs28 k S3).2.length xc) (gxs28 k S3).2 ∧ IAt 32 wr w.heap.size 0 0 (.slice none 0 0) ∧ Kept NoB w wr
theorem isB_gxs28 {s : ISt} (h : IsB s.l) (k : Nat) : IsB (gxs28 k s).1.l := by
  induction k with
  | zero => exact h
  | succ k ih =>
    have h1 := isB_get28 (w := 2) ih (by omega)
    exact isB_get28 (w := 2) h1 (by omega)
set_option maxRecDepth 100000 in
set_option maxHeartbeats 2500000 in
theorem rGet_some (v : Value) (b : List Int) (F : Nat → Prop) (w : World) (h : BSl w F v b) (hF : ∀ k, F k → k < w.heap.size) (hb : b.length ≠ 0) :
    Calls Try.prog 10 #[v] w (IRes (got28 b).1 (got28 b).2.1 (got28 b).2.2.1 (got28 b).2.2.2 w) := by
  obtain ⟨i0, hi0, hz0, hz1, hz2⟩ := info_parts info_rxt
  obtain ⟨a, cap, rfl, _⟩ := id h
  have hbz2 : ((b.length : Int) == 0) = false := by simpa using hb
  have hIB := h.isB
  have hB := Lib.hid h
  have HF := Lib.hid hF
  obtain ⟨p1, hp1⟩ : ∃ p, p = hm28 b := ⟨_, rfl⟩
  obtain ⟨p2, hp2⟩ : ∃ p, p = hn28 b := ⟨_, rfl⟩
  obtain ⟨p3, hp3⟩ : ∃ p, p = hs28 b := ⟨_, rfl⟩
  have q2 : p2 = p1.1.upto 1 8 := by rw [hp2, hp1]; rfl
  have q3 : p3 = p2.1.get 4 := by rw [hp3, hp2]; rfl
  have Q1 : Hid (p1 = (⟨b, 0⟩ : ISt).upto 1 2) := Lib.hid (by rw [hp1]; rfl)
  have Q2 := Lib.hid q2
  have Q3 := Lib.hid q3
  have HG : Hid (got28 b = (if (gxs28 p2.2.toNat p3.1).1.done ≠ 0 then ((gxs28 p2.2.toNat p3.1).1.done, 0, 0, []) else if chk28 p1.2 p3.2 (gxs28 p2.2.toNat p3.1).2 ≠ 0 then (4, 0, 0, []) else (0, p1.2, p3.2, (gxs28 p2.2.toNat p3.1).2))) := Lib.hid (by
    unfold got28
    rw [if_neg (fun h => hb (by rw [h]; rfl)), hp1, hp2, hp3]; rfl)
  clear hp1 hp2 hp3 q2 q3
  obtain ⟨S1, mv⟩ := p1
  obtain ⟨S2, nv⟩ := p2
  obtain ⟨S3, sv⟩ := p3
  simp only at Q2 Q3 HG
  have HU1 := Lib.hid (fun v w (h : RAt w F v ⟨b, 0⟩) hF => RUpto_any v ⟨b, 0⟩ 1 2 F w h hF)
  have HU2 := Lib.hid (fun v w (h : RAt w F v S1) hF => RUpto_any v S1 1 8 F w h hF)
  have HU3 := Lib.hid (fun v w (h : RAt w F v S2) hF => RGet_any v S2 4 F w h hF)
  rw [← Q1.out] at HU1
  rw [← Q2.out] at HU2
  rw [← Q3.out] at HU3
  simp only at HU1 HU2 HU3
  have hmr : 0 ≤ mv ∧ mv ≤ 2 := by have := upto_le28 ⟨b, 0⟩ 1 (most := 2) (by decide); rw [← Q1.out] at this; exact this
  have hnr : 0 ≤ nv ∧ nv ≤ 8 := by have := upto_le28 S1 1 (most := 8) (by decide); rw [← Q2.out] at this; exact this
  have hB1 : IsB S1.l := by have := isB_upto28 (s := ⟨b, 0⟩) (w := 1) (most := 2) hIB (by omega); rw [show (((1 : Nat) : Int)) = 1 from rfl, ← Q1.out] at this; exact this
  have hB2 : IsB S2.l := by have := isB_upto28 (s := S1) (w := 1) (most := 8) hB1 (by omega); rw [show (((1 : Nat) : Int)) = 1 from rfl, ← Q2.out] at this; exact this
  have hsr : 0 ≤ sv ∧ sv < 4294967296 := by have := get_le28 (s := S2) (w := 4) hB2 (by omega) (by omega); rw [show (((4 : Nat) : Int)) = 4 from rfl, ← Q3.out] at this; exact this
  obtain ⟨nn, rfl⟩ := Int.eq_ofNat_of_zero_le hnr.1
  rw [Int.toNat_natCast] at HG
  have hn8 : nn ≤ 8 := by omega
  have hwm : IntKind.i64.wrap mv = mv := IntWalk.i64_in _ (by omega)
  have hws : IntKind.i64.wrap sv = sv := IntWalk.i64_in _ (by omega)
  have HB3 := Lib.hid (show IsB S3.l by have := isB_get28 (s := S2) (w := 4) hB2 (by omega); rw [show (((4 : Nat) : Int)) = 4 from rfl, ← Q3.out] at this; exact this)
  have HBS := Lib.hid (fun k => show IsB (gxs28 k S3).1.l from isB_gxs28 HB3.out k)
  have H0 := Lib.hid (IAt.new 32 w 0 0 (.slice none 0 0))
  clear h hb hIB hF
  go_enter Try.func10, Try.ntmps10
  go_wp2_with fail
  have hK0 := (Kept.refl NoB w).alloc (.cells #[.int .i64 0, .int .i64 0, .slice none 0 0] 32)
  have HK0 := Lib.hid hK0
  have hra : RAt (w.alloc (.cells #[.int .i64 0, .int .i64 0, .slice none 0 0] 32)) F (.agg #[.slice a b.length cap, .int .i64 0]) ⟨b, 0⟩ := ⟨⟨fun h => absurd rfl h, Int.le_refl _, by show (0 : Int) < 100; omega⟩, _, rfl, hB.out.kept hK0 (fun _ _ h => h)⟩
  refine (HU1.out _ _ hra (fun k hk => by have := HF.out k hk; simp; omega)).mono ?_
  rintro e w1 ⟨v1, rfl, hr1, hk1⟩
  have HK1 := Lib.hid (HK0.out.trans hk1 (fun _ _ h => h))
  have HX1 := Lib.hid (H0.out.kept hk1 (fun h => h))
  obtain ⟨a1, n1, c1, e1, rfl, hn1, he1⟩ := rat_form hr1
  have HR1 := Lib.hid hr1
  have HN1 := Lib.hid (And.intro hn1 he1)
  clear hra hr1 hk1 hK0 hn1 he1
  go_wp2_with fail
  obtain ⟨gi, hgi⟩ : ∃ g, g = w1.heap.size := ⟨_, rfl⟩
  have hg1 : w.heap.size < gi := by rw [hgi]; exact heap_lt HX1.out
  have hki := (Kept.refl NoB w1).alloc (.cells #[.slice a1 n1 c1, .int .i64 e1] 85)
  have HB1 : Hid (RBox (w1.alloc (.cells #[.slice a1 n1 c1, .int .i64 e1] 85)) F gi a1 n1 c1 e1 S1) := Lib.hid ⟨HN1.out.1, HN1.out.2, by rw [hgi]; exact heap_alloc_new w1 _, HR1.out.kept hki (fun _ _ h => h)⟩
  have hfg : ∀ k, F k → k ≠ gi := fun k hk he => by have := HF.out k hk; omega
  have HFG := Lib.hid hfg
  have HFW : Hid (∀ w' : World, gi < w'.heap.size → ∀ k, F k → k < w'.heap.size) := Lib.hid (fun w' h k hk => by have := HF.out k hk; omega)
  replace HX1 := Lib.hid (HX1.out.kept hki (fun h => h))
  replace HK1 := Lib.hid (HK1.out.trans hki (fun _ _ h => h))
  rw [← hgi]
  clear hki hgi HR1 HN1 hfg
  refine (HU2.out _ _ HB1.out.2.2.2 (HFW.out _ (heap_lt HB1.out.2.2.1))).mono ?_
  rintro e w2 ⟨v2, rfl, hr2, hk2⟩
  replace HB1 := Lib.hid (HB1.out.kept hk2 (fun _ _ h => h) (fun h => h))
  replace HX1 := Lib.hid (HX1.out.kept hk2 (fun h => h))
  replace HK1 := Lib.hid (HK1.out.trans hk2 (fun _ _ h => h))
  obtain ⟨a2, n2, c2, e2, rfl, hn2, he2⟩ := rat_form hr2
  have HS2 := Lib.hid (HB1.out.set hr2 HFG.out)
  have hset := set2_kept w2 gi (.slice a2 n2 c2) (.int .i64 e2)
  have HX2 := Lib.hid (HX1.out.kept hset (fun h => by omega))
  have HK2 := Lib.hid (HK1.out.trans hset (fun i hi he => by omega))
  obtain ⟨j0, j1, f0, f1⟩ := cells2r HB1.out.2.2.1
  obtain ⟨k0, k1, _, _⟩ := cells2r HS2.out.2.2.1
  clear hr2 hk2 hn2 he2 hset HB1 HX1 HK1
  go_wp2_with fail
  refine (HU3.out _ _ HS2.out.2.2.2 (HFW.out _ (heap_lt HS2.out.2.2.1))).mono ?_
  rintro e w3 ⟨v3, rfl, hr3, hk3⟩
  replace HS2 := Lib.hid (HS2.out.kept hk3 (fun _ _ h => h) (fun h => h))
  replace HX2 := Lib.hid (HX2.out.kept hk3 (fun h => h))
  replace HK2 := Lib.hid (HK2.out.trans hk3 (fun _ _ h => h))
  obtain ⟨a3, n3, c3, e3, rfl, hn3, he3⟩ := rat_form hr3
  have hset := set2_kept w3 gi (.slice a3 n3 c3) (.int .i64 e3)
  have hnx := (Kept.refl NoB ((w3.setCell ⟨gi, 0, none⟩ (.slice a3 n3 c3)).setCell ⟨gi, 1, none⟩ (.int .i64 e3))).alloc (.cells #[.int .i64 mv, .int .i64 sv, .slice none 0 0] 32)
  have HS3 := Lib.hid ((HS2.out.set hr3 HFG.out).kept hnx (fun _ _ h => h) (fun h => h))
  have HX3 := Lib.hid ((HX2.out.kept hset (fun h => by omega)).kept hnx (fun h => h))
  have HK3 := Lib.hid ((HK2.out.trans hset (fun i hi he => by omega)).trans hnx (fun _ _ h => h))
  have HA3 := Lib.hid (IAt.new 32 ((w3.setCell ⟨gi, 0, none⟩ (.slice a3 n3 c3)).setCell ⟨gi, 1, none⟩ (.int .i64 e3)) mv sv (.slice none 0 0))
  have hsz3 : ((w3.setCell ⟨gi, 0, none⟩ (.slice a3 n3 c3)).setCell ⟨gi, 1, none⟩ (.int .i64 e3)).heap.size = w3.heap.size := by simp
  have hgix0 : gi < w3.heap.size := heap_lt HS2.out.2.2.1
  rw [hsz3] at HA3
  clear hsz3
  clear j0 j1 f0 f1 k0 k1
  obtain ⟨j0, j1, f0, f1⟩ := cells2r HS2.out.2.2.1
  clear hr3 hk3 hn3 he3 hset hnx HS2 HX2 HK2 HU1 HU2 HU3 H0 HK0
  go_wp2_with fail
  obtain ⟨gx, hgx⟩ : ∃ g, g = w3.heap.size := ⟨_, rfl⟩
  have hgix : gi < gx := by rw [hgx]; exact hgix0
  rw [← hgx] at HA3 ⊢
  clear hgx hgix0
  have HFX := Lib.hid (show ∀ k, F k → k ≠ gx from fun k hk he => by have := HFG.out; have := HF.out k hk; omega)
  have HFB := Lib.hid (show ∀ k, F k → k < w.heap.size from HF.out)
  go_loopw [9] (fun i wr => RGetRel F w gi gx nn S3 mv sv i wr) (fun i _ => nn - (RowKit.intOf i).toNat)
  case atStart => exact ⟨0, a3, n3, c3, e3, none, 0, Nat.zero_le _, rfl, HS3.out, HA3.out, XOwn.nil _ _ _, HX3.out, HK3.out⟩
  case round =>
    obtain ⟨k, a, n, c, er, xa, xc, hk, rfl, hrb, hat, hown, hbx, hK⟩ := hrel
    have HLG := Lib.hid (gxs_len28 k S3)
    have HRB := Lib.hid hrb
    have HAT := Lib.hid hat
    have HO := Lib.hid hown
    have HBX := Lib.hid hbx
    have HK := Lib.hid hK
    clear hrb hown hbx hK HS3 HX3 HK3 HA3 j0 j1 f0 f1
    by_cases hlt : k < nn
    · have hk1 : (k : Int) < (nn : Int) := by omega
      have HG1 : Hid (gxs28 (k + 1) S3 = ((gx28 (gxs28 k S3).1).1, (gxs28 k S3).2 ++ [(gx28 (gxs28 k S3).1).2])) := Lib.hid rfl
      have hB0 := HBS.out k
      obtain ⟨t0, ht0⟩ : ∃ t, t = (gxs28 k S3).1 := ⟨_, rfl⟩
      obtain ⟨L, hL⟩ : ∃ t, t = (gxs28 k S3).2 := ⟨_, rfl⟩
      rw [← ht0] at HG1 HRB hB0
      rw [← hL] at HG1 HAT HO hat HLG
      obtain ⟨t1, ht1⟩ : ∃ t, t = (t0.get 2).1 := ⟨_, rfl⟩
      obtain ⟨v1, hv1⟩ : ∃ v, v = (t0.get 2).2 := ⟨_, rfl⟩
      obtain ⟨t2, ht2⟩ : ∃ t, t = (t1.get 2).1 := ⟨_, rfl⟩
      obtain ⟨v2, hv2⟩ : ∃ v, v = (t1.get 2).2 := ⟨_, rfl⟩
      have HGX : Hid (gx28 t0 = (t2, (v1, v2))) := Lib.hid (by unfold gx28; rw [← ht1, ← ht2, ← hv1, ← hv2])
      rw [HGX.out] at HG1
      simp only at HG1
      have hB1 : IsB t1.l := by have := isB_get28 (w := 2) hB0 (by omega); rw [show (((2 : Nat) : Int)) = 2 from rfl, ← ht1] at this; exact this
      have hb1 : 0 ≤ v1 ∧ v1 < 65536 := by have := get_le28 (w := 2) hB0 (by omega) (by omega); rw [show (((2 : Nat) : Int)) = 2 from rfl, ← hv1] at this; exact this
      have hb2 : 0 ≤ v2 ∧ v2 < 65536 := by have := get_le28 (w := 2) hB1 (by omega) (by omega); rw [show (((2 : Nat) : Int)) = 2 from rfl, ← hv2] at this; exact this
      have hw1 : IntKind.i64.wrap v1 = v1 := IntWalk.i64_in _ (by omega)
      have hw2 : IntKind.i64.wrap v2 = v2 := IntWalk.i64_in _ (by omega)
      have HC0 := Lib.hid (fun v w h1 h2 => RGet_any v t0 2 F w h1 h2)
      have HC1 := Lib.hid (fun v w h1 h2 => RGet_any v t1 2 F w h1 h2)
      rw [← ht1, ← hv1] at HC0
      rw [← ht2, ← hv2] at HC1
      have hgi := heap_lt HRB.out.2.2.1
      obtain ⟨i0', i1', f0, f1⟩ := cells2r HRB.out.2.2.1
      clear ht0 hL hB0 hB1 ht1 ht2 hv1 hv2 HGX hat
      go_wp2_with fail
      refine (HC0.out _ wr HRB.out.2.2.2 (HFW.out _ hgi)).mono ?_
      rintro e g1 ⟨q1, rfl, hr1, hk1'⟩
      obtain ⟨b1, m1, d1, y1, rfl, hm1, hy1⟩ := rat_form hr1
      have hki := hk1'.alloc (.cells #[.slice b1 m1 d1, .int .i64 y1] 85)
      obtain ⟨gj, hgj⟩ : ∃ g, g = g1.heap.size := ⟨_, rfl⟩
      have hij : gi < gj := by rw [hgj]; exact Nat.lt_of_lt_of_le hgi hk1'.size
      have hxj : gx < gj := by rw [hgj]; exact heap_lt (HAT.out.kept hk1' (fun h => h))
      have HJ1 : Hid (RBox (g1.alloc (.cells #[.slice b1 m1 d1, .int .i64 y1] 85)) F gj b1 m1 d1 y1 t1) := Lib.hid ⟨hm1, hy1, by rw [hgj]; exact heap_alloc_new g1 _, hr1.kept ((Kept.refl NoB g1).alloc _) (fun _ _ h => h)⟩
      have HK1 := Lib.hid hki
      have hFj : ∀ k, F k → k ≠ gj := fun k hk he => by have := HFW.out _ hgi k hk; have := hk1'.size; omega
      have HFJ := Lib.hid hFj
      have hwj : wr.heap.size ≤ gj := by rw [hgj]; exact hk1'.size
      clear hr1 hk1' hm1 hy1 hki i0' i1' f0 f1 hFj
      go_wp2_with fail
      rw [← hgj]
      clear hgj
      refine (HC1.out _ _ HJ1.out.2.2.2 (HFW.out _ (by have := heap_lt HJ1.out.2.2.1; omega))).mono ?_
      rintro e g2 ⟨q2, rfl, hr2, hk2'⟩
      obtain ⟨b2, m2, d2, y2, rfl, hm2, hy2⟩ := rat_form hr2
      replace HJ1 := Lib.hid (HJ1.out.kept hk2' (fun _ _ h => h) (fun h => h))
      have hkk := HK1.out.trans hk2' (fun _ _ h => h)
      have HRB2 := Lib.hid (HRB.out.kept hkk (fun _ _ h => h) (fun h => h))
      have hs1 := set2_kept g2 gj (.slice b2 m2 d2) (.int .i64 y2)
      have hj2 := HJ1.out.set hr2 HFJ.out
      have hkA := hkk.trans hs1 (fun i hi h => by have h : i = gj := h; omega)
      have hr3 := hr2.kept hs1 (fun k hk h => HFJ.out k hk h)
      obtain ⟨j0, j1, f0, f1⟩ := cells2r HJ1.out.2.2.1
      have HJ1' := HJ1
      have HRB2' := HRB2
      clear HJ1 HRB2 hr2 hk2' hkk HC0 HC1 HK1 hm2 hy2
      go_upto_region 12 with fail
      obtain ⟨g3, hg3⟩ : ∃ g, g = ((g2.setCell ⟨gj, 0, none⟩ (.slice b2 m2 d2)).setCell ⟨gj, 1, none⟩ (.int .i64 y2)) := ⟨_, rfl⟩
      rw [← hg3] at hj2 hkA hr3 ⊢
      have HRB3 := Lib.hid (HRB.out.kept hkA (fun _ _ h => h) (fun h => h))
      have hs2 := set2_kept g3 gi (.slice b2 m2 d2) (.int .i64 y2)
      have hrb4 := HRB3.out.set hr3 HFG.out
      have hkB := (hkA.mono (T := fun i => i = gi) (fun _ _ h => h.elim)).trans hs2 (fun i _ h => h)
      obtain ⟨l0, l1, _, _⟩ := cells2r hj2.2.2.1
      obtain ⟨o0, o1, q0, q1⟩ := cells2r HRB3.out.2.2.1
      clear hs1 hg3 j0 j1 f0 f1 hr3 hkA hs2 hj2
      go_upto_region 13 with fail
      obtain ⟨g4, hg4⟩ : ∃ g, g = ((g3.setCell ⟨gi, 0, none⟩ (.slice b2 m2 d2)).setCell ⟨gi, 1, none⟩ (.int .i64 y2)) := ⟨_, rfl⟩
      rw [← hg4] at hrb4 hkB ⊢
      have ngi := own_ne HO.out HRB.out.2.2.1 (by decide)
      have HRB4 := Lib.hid hrb4
      have HAT4 := Lib.hid (HAT.out.kept hkB (fun h => by omega))
      have HO4 := Lib.hid (HO.out.kept hkB (fun k hk he => ngi (by rw [hk, he])))
      have HBX4 := Lib.hid (HBX.out.kept hkB (fun h => by omega))
      have HK4 := Lib.hid (HK.out.trans hkB (fun i hi h => by omega))
      have HKE := Lib.hid ((Kept.refl NoB g4).alloc (.cells #[.int .i64 v1, .int .i64 v2] 73))
      have HEX := Lib.hid (heap_alloc_new g4 (.cells #[.int .i64 v1, .int .i64 v2] 73))
      have HOE := Lib.hid (HO4.out.no HKE.out)
      have HSZ := Lib.hid (show w.heap.size ≤ (World.alloc g4 (.cells #[.int .i64 v1, .int .i64 v2] 73)).heap.size from Nat.le_trans HK4.out.size HKE.out.size)
      obtain ⟨x0, x1, x2⟩ := cells3 HAT4.out
      have xf := frz3 HAT4.out 2
      have hLL : L.length ≤ 100000 := by have := HLG.out; omega
      clear hg4 hrb4 hkB ngi HRB HAT HO HBX HK l0 l1 o0 o1 q0 q1
      go_wp2_with (at_builtin; refine wpList_append_x Try.underlying30 hi0 hz0 hz1 hz2 rfl _ rfl (.tmp 56) (.tmp 62) rfl w.heap.size (.slice xa L.length xc) L rfl HOE.out _ (v1, v2) rfl HEX.out hLL HSZ.out ?_; intro a5 c5 w5 hown5 hg5; (obtain ⟨h8, h6, hk5⟩ := own_step HO4.out (Nat.le_refl _) (by decide) HK4.out HKE.out hg5 HAT4.out HBX4.out); have HR5 := Lib.hid (own_rbox HO4.out (by decide) HFB.out HKE.out hg5 HRB4.out); obtain ⟨_, _, y2'⟩ := cells3 h8; have g8 := frz3 h8 2; have HE5 := Lib.hid (own_store hown5 (by decide) h8 h6 (by omega) hk5 (by omega)); clear h8 h6 hk5 hg5)
      go_roundw
      case rel => exact ⟨k + 1, b2, m2, d2, y2, a5, c5, by omega, by go_num, by rw [HG1.out]; exact HR5.out.kept (S := fun i => i = gx) ((Kept.refl (fun i => i = gx) w5).setCell (p := ⟨gx, 2, none⟩) (.inl rfl) _) (fun k hk h => HFX.out k hk h) (fun h => by omega), by rw [HG1.out]; simp only [List.length_append, List.length_cons, List.length_nil]; exact HE5.out.2.1, by rw [HG1.out]; simp only [List.length_append, List.length_cons, List.length_nil]; exact HE5.out.1, HE5.out.2.2.1, HE5.out.2.2.2⟩
      case measure => simp [RowKit.intOf]; omega
    · obtain rfl : k = nn := by omega
      obtain ⟨s2, hs2⟩ : ∃ s2, s2 = (gxs28 k S3).1 := ⟨_, rfl⟩
      obtain ⟨L, hL⟩ : ∃ t, t = (gxs28 k S3).2 := ⟨_, rfl⟩
      rw [← hs2] at HG HRB
      rw [← hL] at HG HAT HO hat HLG
      have HDN := Lib.hid (RDone_any _ s2 F wr HRB.out.2.2.2)
      obtain ⟨dn, hdn⟩ : ∃ d, d = s2.done := ⟨_, rfl⟩
      rw [← hdn] at HG HDN
      obtain ⟨e0, e1, e2⟩ := cells3 HAT.out
      obtain ⟨j0, j1, _, _⟩ := cells2r HRB.out.2.2.1
      obtain ⟨c0, c1, c2⟩ := cells3 HBX.out
      have f0 := frz3 HBX.out 0
      have f1 := frz3 HBX.out 1
      have f2 := frz3 HBX.out 2
      have hLL : L.length ≤ 1000 := by have := HLG.out; omega
      clear hs2 hL hdn hat hlt
      by_cases hd : dn = 0
      · rw [if_neg (fun h => h hd)] at HG
        rw [hd] at HDN
        have HCK := Lib.hid (fun u W (hx : XSl W (fun _ => True) u L) => rCheck_any mv sv u L _ W hx hLL)
        by_cases hc : chk28 mv sv L = 0
        · rw [if_neg (fun h => h hc)] at HG
          rw [hc] at HCK
          clear hd hc
          go_wp2_with (first | (go_at_call 46; refine HDN.out.mono ?_; rintro e w9 ⟨rfl, hk⟩; replace HAT := Lib.hid (HAT.out.kept hk (fun h => h)); replace HBX := Lib.hid (HBX.out.kept hk (fun h => h)); replace HO := Lib.hid (HO.out.no hk); replace HK := Lib.hid (HK.out.trans hk (fun _ _ h => h)); clear e0 e1 e2 c0 c1 c2 f0 f1 f2; obtain ⟨e0, e1, e2⟩ := cells3 HAT.out; obtain ⟨c0, c1, c2⟩ := cells3 HBX.out; have f0 := frz3 HBX.out 0; have f1 := frz3 HBX.out 1; have f2 := frz3 HBX.out 2; clear hk) | (go_at_call 47; refine (HCK.out _ _ HO.out.sl.any).mono ?_; rintro e w10 ⟨rfl, hk⟩; replace HAT := Lib.hid (HAT.out.kept hk (fun h => h)); replace HBX := Lib.hid (HBX.out.kept hk (fun h => h)); replace HO := Lib.hid (HO.out.no hk); replace HK := Lib.hid (HK.out.trans hk (fun _ _ h => h)); clear e0 e1 e2 c0 c1 c2 f0 f1 f2; obtain ⟨e0, e1, e2⟩ := cells3 HAT.out; obtain ⟨c0, c1, c2⟩ := cells3 HBX.out; have f0 := frz3 HBX.out 0; have f1 := frz3 HBX.out 1; have f2 := frz3 HBX.out 2; clear hk))
          have n6 := own_ne HO.out HBX.out (by decide)
          obtain ⟨r0, r1, r2⟩ := cells3 (set3_heap HBX.out (.int .i64 mv) (.int .i64 sv) (.slice xa L.length xc))
          exact bodyPost_ret (v := .tuple #[iv28 mv sv (.slice xa L.length xc), .int .i64 0]) (by simp [results, Try.results10, go_sem, r0, r1, r2]) rfl (by rw [HG.out]; exact IRes.mk rfl (HO.out.kept (set3_kept _ w.heap.size _ _ _) (fun k hk he => n6 (by rw [hk, he]))).sl (HK.out.trans (set3_kept _ w.heap.size _ _ _) (fun i hi he => absurd hi (by omega))))
        · rw [if_pos hc] at HG
          have hne : (chk28 mv sv L != 0) = true := bne_iff_ne.2 hc
          obtain ⟨er, her⟩ : ∃ er, er = chk28 mv sv L := ⟨_, rfl⟩
          rw [← her] at HCK hne
          clear hd hc her
          go_wp2_with (first | (go_at_call 46; refine HDN.out.mono ?_; rintro e w9 ⟨rfl, hk⟩; replace HAT := Lib.hid (HAT.out.kept hk (fun h => h)); replace HBX := Lib.hid (HBX.out.kept hk (fun h => h)); replace HO := Lib.hid (HO.out.no hk); replace HK := Lib.hid (HK.out.trans hk (fun _ _ h => h)); clear e0 e1 e2 c0 c1 c2 f0 f1 f2; obtain ⟨e0, e1, e2⟩ := cells3 HAT.out; obtain ⟨c0, c1, c2⟩ := cells3 HBX.out; have f0 := frz3 HBX.out 0; have f1 := frz3 HBX.out 1; have f2 := frz3 HBX.out 2; clear hk) | (go_at_call 47; refine (HCK.out _ _ HO.out.sl.any).mono ?_; rintro e w10 ⟨rfl, hk⟩; replace HAT := Lib.hid (HAT.out.kept hk (fun h => h)); replace HBX := Lib.hid (HBX.out.kept hk (fun h => h)); replace HO := Lib.hid (HO.out.no hk); replace HK := Lib.hid (HK.out.trans hk (fun _ _ h => h)); clear e0 e1 e2 c0 c1 c2 f0 f1 f2; obtain ⟨e0, e1, e2⟩ := cells3 HAT.out; obtain ⟨c0, c1, c2⟩ := cells3 HBX.out; have f0 := frz3 HBX.out 0; have f1 := frz3 HBX.out 1; have f2 := frz3 HBX.out 2; clear hk))
          obtain ⟨r0, r1, r2⟩ := cells3 (set3_heap HBX.out (.int .i64 0) (.int .i64 0) (.slice none 0 0))
          exact bodyPost_ret (v := .tuple #[iv28 0 0 (.slice none 0 0), .int .i64 4]) (by simp [results, Try.results10, go_sem, r0, r1, r2]) rfl (by rw [HG.out]; exact IRes.zero rfl (HK.out.trans (set3_kept _ w.heap.size _ _ _) (fun i hi he => absurd hi (by omega))))
      · rw [if_pos hd] at HG
        have hne : (dn != 0) = true := bne_iff_ne.2 hd
        clear hd
        go_wp2_with (go_at_call 46; refine HDN.out.mono ?_; rintro e w9 ⟨rfl, hk⟩; replace HAT := Lib.hid (HAT.out.kept hk (fun h => h)); replace HBX := Lib.hid (HBX.out.kept hk (fun h => h)); replace HO := Lib.hid (HO.out.no hk); replace HK := Lib.hid (HK.out.trans hk (fun _ _ h => h)); clear e0 e1 e2 c0 c1 c2 f0 f1 f2; obtain ⟨e0, e1, e2⟩ := cells3 HAT.out; obtain ⟨c0, c1, c2⟩ := cells3 HBX.out; have f0 := frz3 HBX.out 0; have f1 := frz3 HBX.out 1; have f2 := frz3 HBX.out 2; clear hk)
        obtain ⟨r0, r1, r2⟩ := cells3 (set3_heap HBX.out (.int .i64 0) (.int .i64 0) (.slice none 0 0))
        exact bodyPost_ret (v := .tuple #[iv28 0 0 (.slice none 0 0), .int .i64 dn]) (by simp [results, Try.results10, go_sem, r0, r1, r2]) rfl (by rw [HG.out]; exact IRes.zero rfl (HK.out.trans (set3_kept _ w.heap.size _ _ _) (fun i hi he => absurd hi (by omega))))
set_option maxRecDepth 100000 in
theorem rGet28_any (v : Value) (b : List Int) (F : Nat → Prop) (w : World) (h : BSl w F v b) (hF : ∀ k, F k → k < w.heap.size) :
    Calls Try.prog 10 #[v] w (IRes (got28 b).1 (got28 b).2.1 (got28 b).2.2.1 (got28 b).2.2.2 w) := by
  by_cases hb : b.length = 0
  · obtain ⟨a, cap, rfl, _⟩ := h
    obtain rfl : b = [] := List.eq_nil_of_length_eq_zero hb
    have hg : got28 [] = (0, 0, 0, []) := by unfold got28; rw [if_pos rfl]
    rw [hg]
    have HK0 := Lib.hid ((Kept.refl NoB w).alloc (.cells #[.int .i64 0, .int .i64 0, .slice none 0 0] 32))
    have HB := Lib.hid (IAt.new 32 w 0 0 (.slice none 0 0))
    obtain ⟨c0, c1, c2⟩ := HB.out.cells
    have f0 := frz3 HB.out 0
    have f1 := frz3 HB.out 1
    have f2 := frz3 HB.out 2
    clear hb hg hF
    go_enter Try.func10, Try.ntmps10
    go_wp2_with fail
    first
      | exact bodyPost_ret (v := .tuple #[iv28 0 0 (.slice none 0 0), .int .i64 0]) (by simp [results, Try.results10, go_sem, c0, c1, c2]) rfl (IRes.zero rfl HK0.out)
      | (obtain ⟨r0, r1, r2⟩ := cells3 (set3_heap HB.out (.int .i64 0) (.int .i64 0) (.slice none 0 0))
         exact bodyPost_ret (v := .tuple #[iv28 0 0 (.slice none 0 0), .int .i64 0]) (by simp [results, Try.results10, go_sem, r0, r1, r2]) rfl (IRes.zero rfl (HK0.out.trans (set3_kept _ w.heap.size _ _ _) (fun i hi he => absurd hi (by omega)))))
  · exact rGet_some v b F w h hF hb
end Go.Proofs.Ytiifkcjngajegaa
namespace Go.Proofs.Ytiifkcjngajegaa
open Go.RowKit
set_option linter.unusedVariables false

theorem upto_b28 {l : Nat} {x : Int} (h : 0 ≤ x ∧ x < 4294967296) : -9223372036854775808 ≤ x ∧ x ≤ 9223372036854775807 := by omega
theorem got_size28 (b : List Int) (hB : IsB b) : 0 ≤ (got28 b).2.2.1 ∧ (got28 b).2.2.1 < 4294967296 := by
  have B1 : IsB (hm28 b).1.l := isB_upto28 (s := ⟨b, 0⟩) (w := 1) hB (by omega)
  have B2 : IsB (hn28 b).1.l := isB_upto28 (s := (hm28 b).1) (w := 1) B1 (by omega)
  have h := get_le28 (s := (hn28 b).1) (w := 4) B2 (by omega) (by omega)
  unfold got28
  by_cases h1 : b = []
  · rw [if_pos h1]; exact ⟨Int.le_refl _, by show (0 : Int) < _; omega⟩
  · rw [if_neg h1]
    by_cases h2 : (rest28 b).1.done ≠ 0
    · rw [if_pos h2]; exact ⟨Int.le_refl _, by show (0 : Int) < _; omega⟩
    · rw [if_neg h2]
      by_cases h3 : chk28 (hm28 b).2 (hs28 b).2 (rest28 b).2 ≠ 0
      · rw [if_pos h3]; exact ⟨Int.le_refl _, by show (0 : Int) < _; omega⟩
      · rw [if_neg h3]; exact h
theorem got_len28 (b : List Int) : (got28 b).2.2.2.length ≤ 8 := by
  have h := upto_le28 (hm28 b).1 1 (most := 8) (by decide)
  have hn : (hn28 b).2 ≤ 8 := h.2
  have hl := gxs_len28 (hn28 b).2.toNat (hs28 b).1
  have hr : (rest28 b).2.length ≤ 8 := by unfold rest28; rw [hl]; omega
  unfold got28
  by_cases h1 : b = []
  · rw [if_pos h1]; exact Nat.zero_le _
  · rw [if_neg h1]
    by_cases h2 : (rest28 b).1.done ≠ 0
    · rw [if_pos h2]; exact Nat.zero_le _
    · rw [if_neg h2]
      by_cases h3 : chk28 (hm28 b).2 (hs28 b).2 (rest28 b).2 ≠ 0
      · rw [if_pos h3]; exact Nat.zero_le _
      · rw [if_neg h3]; exact hr
set_option maxRecDepth 100000 in
set_option maxHeartbeats 4000000 in
theorem InodeGets_any (v : Value) (b0 : List Int) (W : World) (h : BSl W (fun k => k < W.heap.size) v b0) :
    Calls Try.prog 3 #[v] W fun e W' => e = .returned (.bool true) ∧ Kept NoB W W' := by
  have HV := Lib.hid h
  obtain ⟨va, vc, rfl, _⟩ := id h
  clear h
  go_enter Try.func3, Try.ntmps3
  go_wp2_with fail
  refine (Cut_any _ b0 100 _ _ HV.out (by omega)).mono ?_
  rintro e w' ⟨v', rfl, hb, rfl⟩
  obtain ⟨b, hb0⟩ : ∃ b, b = b0.take 100 := ⟨_, rfl⟩
  rw [← hb0] at hb
  have hbl : b.length ≤ 100 := by rw [hb0, List.length_take]; omega
  have HB := Lib.hid hb
  have hIB := hb.isB
  have hsz := got_size28 b hIB
  have hl := got_len28 b
  have hgb := fun m s l hb => got_bytes28 (b := b) (m := m) (s := s) (l := l) hIB hb
  have HK := Lib.hid (Kept.refl NoB W)
  have HG1 := Lib.hid (fun v W' (h : BSl W' (fun k => k < W.heap.size) v b) => iGet_any v b _ W' h (by omega))
  have HG2 := Lib.hid (fun v W' (h : BSl W' (fun k => k < W.heap.size) v b) (hs : W.heap.size ≤ W'.heap.size) => rGet28_any v b _ W' h (fun k hk => Nat.lt_of_lt_of_le hk hs))
  have hz : b = [] → got28 b = (0, 0, 0, []) := fun h => by unfold got28; rw [if_pos h]
  obtain ⟨G, hG⟩ : ∃ G, G = got28 b := ⟨_, rfl⟩
  rw [← hG] at HG1 HG2 hsz hl hgb hz
  obtain ⟨er, m, s, l⟩ := G
  simp only at HG1 HG2 hsz hl
  have HPU := Lib.hid (fun x W' (hx : XSl W' (fun _ => True) x l) => iPut_any m s x l _ W' hx (by omega) (by omega))
  obtain ⟨PL, hPL⟩ : ∃ q, q = putL m s l := ⟨_, rfl⟩
  obtain ⟨gg, hgg⟩ : ∃ q, q = chk28 m s l := ⟨_, rfl⟩
  rw [← hPL, ← hgg] at HPU
  have HSA := Lib.hid (fun x y W' (hx : BSl W' (fun _ => True) x PL) (hy : BSl W' (fun k => k < W.heap.size) y b) => Same_any x y PL b _ _ W' hx hy)
  have hl2 : l.length ≤ 1000 := by omega
  clear hb0 hIB hG HV
  obtain ⟨a, cap, rfl, _⟩ := id hb
  clear hb
  by_cases he : er = 0
  · subst he
    by_cases hbz : b = []
    · have hq := hz hbz
      simp only [Prod.mk.injEq, true_and] at hq
      obtain ⟨hm0, hs0, hl0⟩ := hq
      obtain rfl : gg = 0 := by rw [hgg, hm0, hs0, hl0]; decide
      rw [show decide (PL = b) = false from decide_eq_false (fun h => by have h2 := congrArg List.length h; rw [hPL, hm0, hs0, hl0, hbz] at h2; revert h2; decide)] at HSA
      have hl := hl2
      subst hbz
      clear hm0 hs0 hl0 hz hgb hPL hgg hsz hl2
      go_wp2_with (first
        | (go_at_call 8; refine (HCUT.out _).mono ?_; rintro e w' ⟨rfl, rfl⟩)
        | (go_at_call 9; refine (HG1.out _ _ HB.out).mono ?_; rintro e w1 ⟨a1, c1', rfl, hx, hk⟩; (try simp only at hx); (have hk2 := (Kept.refl NoB w1).alloc (.cells #[.int .i64 m, .int .i64 s, .slice a1 l.length c1'] 26)); (have hk3 := hk.trans hk2 (fun _ _ h => h)); (try replace HX := Lib.hid (HX.out.kept hk3 (fun h => h))); (try replace HXS := Lib.hid (HXS.out.no hk3)); (try replace HY := Lib.hid (HY.out.kept hk3 (fun h => h))); (try replace HYS := Lib.hid (HYS.out.no hk3)); (try replace HP := Lib.hid (HP.out.kept hk3 (fun _ _ h => h))); replace HB := Lib.hid (HB.out.kept hk3 (fun _ _ h => h)); replace HK := Lib.hid (HK.out.trans hk3 (fun _ _ h => h)); have HX := Lib.hid (IAt.new 26 w1 m s (.slice a1 l.length c1')); have HXS := Lib.hid (hx.any.no hk2); (try clear p0 p1 p2); (try (obtain ⟨p0, p1, p2⟩ := HX.out.cells)); (try clear c0 c1 c2); (try (obtain ⟨c0, c1, c2⟩ := HY.out.cells)); clear hx hk hk2 hk3)
        | (go_at_call 10; refine (HG2.out _ _ HB.out HK.out.size).mono ?_; rintro e w2 ⟨a2, c2', rfl, hx, hk⟩; (try simp only at hx); (have hk2 := (Kept.refl NoB w2).alloc (.cells #[.int .i64 m, .int .i64 s, .slice a2 l.length c2'] 32)); (have hk3 := hk.trans hk2 (fun _ _ h => h)); (try replace HX := Lib.hid (HX.out.kept hk3 (fun h => h))); (try replace HXS := Lib.hid (HXS.out.no hk3)); (try replace HY := Lib.hid (HY.out.kept hk3 (fun h => h))); (try replace HYS := Lib.hid (HYS.out.no hk3)); (try replace HP := Lib.hid (HP.out.kept hk3 (fun _ _ h => h))); replace HB := Lib.hid (HB.out.kept hk3 (fun _ _ h => h)); replace HK := Lib.hid (HK.out.trans hk3 (fun _ _ h => h)); have HY := Lib.hid (IAt.new 32 w2 m s (.slice a2 l.length c2')); have HYS := Lib.hid (hx.any.no hk2); (try clear p0 p1 p2); (try (obtain ⟨p0, p1, p2⟩ := HX.out.cells)); (try clear c0 c1 c2); (try (obtain ⟨c0, c1, c2⟩ := HY.out.cells)); clear hx hk hk2 hk3)
        | (go_at_call 11; refine (HPU.out _ _ HXS.out).mono ?_; rintro e w3 ⟨a3, c3', rfl, hb, hk⟩; (try replace HX := Lib.hid (HX.out.kept hk (fun h => h))); (try replace HXS := Lib.hid (HXS.out.no hk)); (try replace HY := Lib.hid (HY.out.kept hk (fun h => h))); (try replace HYS := Lib.hid (HYS.out.no hk)); (try replace HP := Lib.hid (HP.out.kept hk (fun _ _ h => h))); replace HB := Lib.hid (HB.out.kept hk (fun _ _ h => h)); replace HK := Lib.hid (HK.out.trans hk (fun _ _ h => h)); have HP := Lib.hid (hb.mono (G := fun _ => True) (fun _ _ _ => trivial)); (try clear p0 p1 p2); (try (obtain ⟨p0, p1, p2⟩ := HX.out.cells)); (try clear c0 c1 c2); (try (obtain ⟨c0, c1, c2⟩ := HY.out.cells)); clear hb hk)
        | (go_at_call 12; refine (like_true m s _ _ l _ _ _ HXS.out HYS.out hl).mono ?_; rintro e w4 ⟨rfl, hk⟩; (try replace HX := Lib.hid (HX.out.kept hk (fun h => h))); (try replace HXS := Lib.hid (HXS.out.no hk)); (try replace HY := Lib.hid (HY.out.kept hk (fun h => h))); (try replace HYS := Lib.hid (HYS.out.no hk)); (try replace HP := Lib.hid (HP.out.kept hk (fun _ _ h => h))); replace HB := Lib.hid (HB.out.kept hk (fun _ _ h => h)); replace HK := Lib.hid (HK.out.trans hk (fun _ _ h => h)); (try clear p0 p1 p2); (try (obtain ⟨p0, p1, p2⟩ := HX.out.cells)); (try clear c0 c1 c2); (try (obtain ⟨c0, c1, c2⟩ := HY.out.cells)); clear hk)
        | (go_at_call 13; refine (HSA.out _ _ _ HP.out HB.out).mono ?_; rintro e w5 ⟨rfl, hk⟩; (try replace HX := Lib.hid (HX.out.kept hk (fun h => h))); (try replace HXS := Lib.hid (HXS.out.no hk)); (try replace HY := Lib.hid (HY.out.kept hk (fun h => h))); (try replace HYS := Lib.hid (HYS.out.no hk)); (try replace HP := Lib.hid (HP.out.kept hk (fun _ _ h => h))); replace HB := Lib.hid (HB.out.kept hk (fun _ _ h => h)); replace HK := Lib.hid (HK.out.trans hk (fun _ _ h => h)); (try clear p0 p1 p2); (try (obtain ⟨p0, p1, p2⟩ := HX.out.cells)); (try clear c0 c1 c2); (try (obtain ⟨c0, c1, c2⟩ := HY.out.cells)); clear hk)
        | (go_at_call 14; refine (awake28_any _).mono ?_; rintro e w6 ⟨rfl, hk⟩; (try replace HX := Lib.hid (HX.out.kept hk (fun h => h))); (try replace HXS := Lib.hid (HXS.out.no hk)); (try replace HY := Lib.hid (HY.out.kept hk (fun h => h))); (try replace HYS := Lib.hid (HYS.out.no hk)); (try replace HP := Lib.hid (HP.out.kept hk (fun _ _ h => h))); replace HB := Lib.hid (HB.out.kept hk (fun _ _ h => h)); replace HK := Lib.hid (HK.out.trans hk (fun _ _ h => h)); (try clear p0 p1 p2); (try (obtain ⟨p0, p1, p2⟩ := HX.out.cells)); (try clear c0 c1 c2); (try (obtain ⟨c0, c1, c2⟩ := HY.out.cells)); clear hk))
      go_ret
      exact ⟨rfl, HK.out⟩
    · obtain ⟨h1, h2⟩ := hgb m s l hbz rfl
      obtain rfl : gg = 0 := by rw [hgg]; exact h1
      rw [show decide (PL = b) = true from decide_eq_true (by rw [hPL]; unfold putL; rw [if_pos h1]; exact h2)] at HSA
      have hl := hl2
      clear hz hgb hPL hgg hbz hsz hl2 h1 h2
      go_wp2_with (first
        | (go_at_call 8; refine (HCUT.out _).mono ?_; rintro e w' ⟨rfl, rfl⟩)
        | (go_at_call 9; refine (HG1.out _ _ HB.out).mono ?_; rintro e w1 ⟨a1, c1', rfl, hx, hk⟩; (try simp only at hx); (have hk2 := (Kept.refl NoB w1).alloc (.cells #[.int .i64 m, .int .i64 s, .slice a1 l.length c1'] 26)); (have hk3 := hk.trans hk2 (fun _ _ h => h)); (try replace HX := Lib.hid (HX.out.kept hk3 (fun h => h))); (try replace HXS := Lib.hid (HXS.out.no hk3)); (try replace HY := Lib.hid (HY.out.kept hk3 (fun h => h))); (try replace HYS := Lib.hid (HYS.out.no hk3)); (try replace HP := Lib.hid (HP.out.kept hk3 (fun _ _ h => h))); replace HB := Lib.hid (HB.out.kept hk3 (fun _ _ h => h)); replace HK := Lib.hid (HK.out.trans hk3 (fun _ _ h => h)); have HX := Lib.hid (IAt.new 26 w1 m s (.slice a1 l.length c1')); have HXS := Lib.hid (hx.any.no hk2); (try clear p0 p1 p2); (try (obtain ⟨p0, p1, p2⟩ := HX.out.cells)); (try clear c0 c1 c2); (try (obtain ⟨c0, c1, c2⟩ := HY.out.cells)); clear hx hk hk2 hk3)
        | (go_at_call 10; refine (HG2.out _ _ HB.out HK.out.size).mono ?_; rintro e w2 ⟨a2, c2', rfl, hx, hk⟩; (try simp only at hx); (have hk2 := (Kept.refl NoB w2).alloc (.cells #[.int .i64 m, .int .i64 s, .slice a2 l.length c2'] 32)); (have hk3 := hk.trans hk2 (fun _ _ h => h)); (try replace HX := Lib.hid (HX.out.kept hk3 (fun h => h))); (try replace HXS := Lib.hid (HXS.out.no hk3)); (try replace HY := Lib.hid (HY.out.kept hk3 (fun h => h))); (try replace HYS := Lib.hid (HYS.out.no hk3)); (try replace HP := Lib.hid (HP.out.kept hk3 (fun _ _ h => h))); replace HB := Lib.hid (HB.out.kept hk3 (fun _ _ h => h)); replace HK := Lib.hid (HK.out.trans hk3 (fun _ _ h => h)); have HY := Lib.hid (IAt.new 32 w2 m s (.slice a2 l.length c2')); have HYS := Lib.hid (hx.any.no hk2); (try clear p0 p1 p2); (try (obtain ⟨p0, p1, p2⟩ := HX.out.cells)); (try clear c0 c1 c2); (try (obtain ⟨c0, c1, c2⟩ := HY.out.cells)); clear hx hk hk2 hk3)
        | (go_at_call 11; refine (HPU.out _ _ HXS.out).mono ?_; rintro e w3 ⟨a3, c3', rfl, hb, hk⟩; (try replace HX := Lib.hid (HX.out.kept hk (fun h => h))); (try replace HXS := Lib.hid (HXS.out.no hk)); (try replace HY := Lib.hid (HY.out.kept hk (fun h => h))); (try replace HYS := Lib.hid (HYS.out.no hk)); (try replace HP := Lib.hid (HP.out.kept hk (fun _ _ h => h))); replace HB := Lib.hid (HB.out.kept hk (fun _ _ h => h)); replace HK := Lib.hid (HK.out.trans hk (fun _ _ h => h)); have HP := Lib.hid (hb.mono (G := fun _ => True) (fun _ _ _ => trivial)); (try clear p0 p1 p2); (try (obtain ⟨p0, p1, p2⟩ := HX.out.cells)); (try clear c0 c1 c2); (try (obtain ⟨c0, c1, c2⟩ := HY.out.cells)); clear hb hk)
        | (go_at_call 12; refine (like_true m s _ _ l _ _ _ HXS.out HYS.out hl).mono ?_; rintro e w4 ⟨rfl, hk⟩; (try replace HX := Lib.hid (HX.out.kept hk (fun h => h))); (try replace HXS := Lib.hid (HXS.out.no hk)); (try replace HY := Lib.hid (HY.out.kept hk (fun h => h))); (try replace HYS := Lib.hid (HYS.out.no hk)); (try replace HP := Lib.hid (HP.out.kept hk (fun _ _ h => h))); replace HB := Lib.hid (HB.out.kept hk (fun _ _ h => h)); replace HK := Lib.hid (HK.out.trans hk (fun _ _ h => h)); (try clear p0 p1 p2); (try (obtain ⟨p0, p1, p2⟩ := HX.out.cells)); (try clear c0 c1 c2); (try (obtain ⟨c0, c1, c2⟩ := HY.out.cells)); clear hk)
        | (go_at_call 13; refine (HSA.out _ _ _ HP.out HB.out).mono ?_; rintro e w5 ⟨rfl, hk⟩; (try replace HX := Lib.hid (HX.out.kept hk (fun h => h))); (try replace HXS := Lib.hid (HXS.out.no hk)); (try replace HY := Lib.hid (HY.out.kept hk (fun h => h))); (try replace HYS := Lib.hid (HYS.out.no hk)); (try replace HP := Lib.hid (HP.out.kept hk (fun _ _ h => h))); replace HB := Lib.hid (HB.out.kept hk (fun _ _ h => h)); replace HK := Lib.hid (HK.out.trans hk (fun _ _ h => h)); (try clear p0 p1 p2); (try (obtain ⟨p0, p1, p2⟩ := HX.out.cells)); (try clear c0 c1 c2); (try (obtain ⟨c0, c1, c2⟩ := HY.out.cells)); clear hk)
        | (go_at_call 14; refine (awake28_any _).mono ?_; rintro e w6 ⟨rfl, hk⟩; (try replace HX := Lib.hid (HX.out.kept hk (fun h => h))); (try replace HXS := Lib.hid (HXS.out.no hk)); (try replace HY := Lib.hid (HY.out.kept hk (fun h => h))); (try replace HYS := Lib.hid (HYS.out.no hk)); (try replace HP := Lib.hid (HP.out.kept hk (fun _ _ h => h))); replace HB := Lib.hid (HB.out.kept hk (fun _ _ h => h)); replace HK := Lib.hid (HK.out.trans hk (fun _ _ h => h)); (try clear p0 p1 p2); (try (obtain ⟨p0, p1, p2⟩ := HX.out.cells)); (try clear c0 c1 c2); (try (obtain ⟨c0, c1, c2⟩ := HY.out.cells)); clear hk))
      go_ret
      exact ⟨rfl, HK.out⟩
  · have hne : (er != 0) = true := bne_iff_ne.2 he
    have hl := hl2
    clear hz hgb hPL hgg hsz hl2 he
    go_wp2_with (first
      | (go_at_call 8; refine (HCUT.out _).mono ?_; rintro e w' ⟨rfl, rfl⟩)
      | (go_at_call 9; refine (HG1.out _ _ HB.out).mono ?_; rintro e w1 ⟨a1, c1', rfl, hx, hk⟩; (try simp only at hx); (have hk2 := (Kept.refl NoB w1).alloc (.cells #[.int .i64 m, .int .i64 s, .slice a1 l.length c1'] 26)); (have hk3 := hk.trans hk2 (fun _ _ h => h)); (try replace HX := Lib.hid (HX.out.kept hk3 (fun h => h))); (try replace HXS := Lib.hid (HXS.out.no hk3)); (try replace HY := Lib.hid (HY.out.kept hk3 (fun h => h))); (try replace HYS := Lib.hid (HYS.out.no hk3)); (try replace HP := Lib.hid (HP.out.kept hk3 (fun _ _ h => h))); replace HB := Lib.hid (HB.out.kept hk3 (fun _ _ h => h)); replace HK := Lib.hid (HK.out.trans hk3 (fun _ _ h => h)); have HX := Lib.hid (IAt.new 26 w1 m s (.slice a1 l.length c1')); have HXS := Lib.hid (hx.any.no hk2); (try clear p0 p1 p2); (try (obtain ⟨p0, p1, p2⟩ := HX.out.cells)); (try clear c0 c1 c2); (try (obtain ⟨c0, c1, c2⟩ := HY.out.cells)); clear hx hk hk2 hk3)
      | (go_at_call 10; refine (HG2.out _ _ HB.out HK.out.size).mono ?_; rintro e w2 ⟨a2, c2', rfl, hx, hk⟩; (try simp only at hx); (have hk2 := (Kept.refl NoB w2).alloc (.cells #[.int .i64 m, .int .i64 s, .slice a2 l.length c2'] 32)); (have hk3 := hk.trans hk2 (fun _ _ h => h)); (try replace HX := Lib.hid (HX.out.kept hk3 (fun h => h))); (try replace HXS := Lib.hid (HXS.out.no hk3)); (try replace HY := Lib.hid (HY.out.kept hk3 (fun h => h))); (try replace HYS := Lib.hid (HYS.out.no hk3)); (try replace HP := Lib.hid (HP.out.kept hk3 (fun _ _ h => h))); replace HB := Lib.hid (HB.out.kept hk3 (fun _ _ h => h)); replace HK := Lib.hid (HK.out.trans hk3 (fun _ _ h => h)); have HY := Lib.hid (IAt.new 32 w2 m s (.slice a2 l.length c2')); have HYS := Lib.hid (hx.any.no hk2); (try clear p0 p1 p2); (try (obtain ⟨p0, p1, p2⟩ := HX.out.cells)); (try clear c0 c1 c2); (try (obtain ⟨c0, c1, c2⟩ := HY.out.cells)); clear hx hk hk2 hk3)
      | (go_at_call 11; refine (HPU.out _ _ HXS.out).mono ?_; rintro e w3 ⟨a3, c3', rfl, hb, hk⟩; (try replace HX := Lib.hid (HX.out.kept hk (fun h => h))); (try replace HXS := Lib.hid (HXS.out.no hk)); (try replace HY := Lib.hid (HY.out.kept hk (fun h => h))); (try replace HYS := Lib.hid (HYS.out.no hk)); (try replace HP := Lib.hid (HP.out.kept hk (fun _ _ h => h))); replace HB := Lib.hid (HB.out.kept hk (fun _ _ h => h)); replace HK := Lib.hid (HK.out.trans hk (fun _ _ h => h)); have HP := Lib.hid (hb.mono (G := fun _ => True) (fun _ _ _ => trivial)); (try clear p0 p1 p2); (try (obtain ⟨p0, p1, p2⟩ := HX.out.cells)); (try clear c0 c1 c2); (try (obtain ⟨c0, c1, c2⟩ := HY.out.cells)); clear hb hk)
      | (go_at_call 12; refine (like_true m s _ _ l _ _ _ HXS.out HYS.out hl).mono ?_; rintro e w4 ⟨rfl, hk⟩; (try replace HX := Lib.hid (HX.out.kept hk (fun h => h))); (try replace HXS := Lib.hid (HXS.out.no hk)); (try replace HY := Lib.hid (HY.out.kept hk (fun h => h))); (try replace HYS := Lib.hid (HYS.out.no hk)); (try replace HP := Lib.hid (HP.out.kept hk (fun _ _ h => h))); replace HB := Lib.hid (HB.out.kept hk (fun _ _ h => h)); replace HK := Lib.hid (HK.out.trans hk (fun _ _ h => h)); (try clear p0 p1 p2); (try (obtain ⟨p0, p1, p2⟩ := HX.out.cells)); (try clear c0 c1 c2); (try (obtain ⟨c0, c1, c2⟩ := HY.out.cells)); clear hk)
      | (go_at_call 13; refine (HSA.out _ _ _ HP.out HB.out).mono ?_; rintro e w5 ⟨rfl, hk⟩; (try replace HX := Lib.hid (HX.out.kept hk (fun h => h))); (try replace HXS := Lib.hid (HXS.out.no hk)); (try replace HY := Lib.hid (HY.out.kept hk (fun h => h))); (try replace HYS := Lib.hid (HYS.out.no hk)); (try replace HP := Lib.hid (HP.out.kept hk (fun _ _ h => h))); replace HB := Lib.hid (HB.out.kept hk (fun _ _ h => h)); replace HK := Lib.hid (HK.out.trans hk (fun _ _ h => h)); (try clear p0 p1 p2); (try (obtain ⟨p0, p1, p2⟩ := HX.out.cells)); (try clear c0 c1 c2); (try (obtain ⟨c0, c1, c2⟩ := HY.out.cells)); clear hk)
      | (go_at_call 14; refine (awake28_any _).mono ?_; rintro e w6 ⟨rfl, hk⟩; (try replace HX := Lib.hid (HX.out.kept hk (fun h => h))); (try replace HXS := Lib.hid (HXS.out.no hk)); (try replace HY := Lib.hid (HY.out.kept hk (fun h => h))); (try replace HYS := Lib.hid (HYS.out.no hk)); (try replace HP := Lib.hid (HP.out.kept hk (fun _ _ h => h))); replace HB := Lib.hid (HB.out.kept hk (fun _ _ h => h)); replace HK := Lib.hid (HK.out.trans hk (fun _ _ h => h)); (try clear p0 p1 p2); (try (obtain ⟨p0, p1, p2⟩ := HX.out.cells)); (try clear c0 c1 c2); (try (obtain ⟨c0, c1, c2⟩ := HY.out.cells)); clear hk))
    go_ret
    exact ⟨rfl, HK.out⟩
end Go.Proofs.Ytiifkcjngajegaa
