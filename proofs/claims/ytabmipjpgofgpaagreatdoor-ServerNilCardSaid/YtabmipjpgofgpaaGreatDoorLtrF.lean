/-
  Package letter: rows of parts; partsOf for the kinds of an update's letters.
-/
import Derived.Test.YtabmipjpgofgpaaGreatDoorLtrE
import Derived.Lib.LaidTab
import Derived.Lib.SmallJoins
namespace Go.Proofs.YtabmipjpgofgpaaGreatDoor
open Go.RowKit
set_option linter.unusedVariables false
set_option linter.unusedSimpArgs false

theorem info_part : (Tryz.prog.info? 228).map (fun i => (i.zero, i.size, i.bytes)) = some (some (.agg #[.nilFunc, .nilFunc, .nilFunc, .nilFunc]), 4, 32) := by kernel_rfl
/-- Four values. -/
structure Q4 where
  a : Value
  b : Value
  c : Value
  d : Value
def q40 : Q4 := ⟨undef, undef, undef, undef⟩
def q4l (x : Q4) : List Value := [x.a, x.b, x.c, x.d]
def q4v (x : Q4) : Value := .agg #[x.a, x.b, x.c, x.d]
def q4s (ps : List Q4) : List Value := ps.flatMap q4l
theorem q4s_app (a b : List Q4) : q4s (a ++ b) = q4s a ++ q4s b := by simp [q4s]
theorem q4s_len (a : List Q4) : (q4s a).length = a.length * 4 := by
  induction a with
  | nil => rfl
  | cons p a ih =>
    have : q4s (p :: a) = q4l p ++ q4s a := rfl
    rw [this, List.length_append, ih, List.length_cons]
    simp only [q4l, List.length_cons, List.length_nil]
    omega
theorem q4s_at (a : List Q4) (j i : Nat) (hj : j < a.length) (hi : i < 4) : (q4s a)[j * 4 + i]? = (q4l a[j])[i]? := by
  induction a generalizing j with
  | nil => exact absurd hj (by simp)
  | cons p a ih =>
    have e : q4s (p :: a) = q4l p ++ q4s a := rfl
    have hl : (q4l p).length = 4 := rfl
    rw [e]
    cases j with
    | zero =>
      rw [Nat.zero_mul, Nat.zero_add, List.getElem?_append_left (by rw [hl]; exact hi)]
      rfl
    | succ j =>
      rw [List.getElem?_append_right (by rw [hl]; omega), hl, List.getElem_cons_succ, show (j + 1) * 4 + i - 4 = j * 4 + i by omega]
      exact ih j (by simpa using hj)
/-- A row of parts of the call's own. -/
def POw (B : Nat) (w : World) (v : Value) (ps : List Q4) : Prop := w.ownsRow B 228 4 v ps.length (q4s ps)
theorem POw.nil (B : Nat) (w : World) : POw B w (.slice none 0 0) [] := World.ownsRow_nil _ _ _ _
theorem POw.form {B : Nat} {w : World} {v : Value} {l : List Q4} (h : POw B w v l) : ∃ a c, v = .slice a l.length c := by
  rcases h.2 with ⟨rfl, h0⟩ | ⟨r, cap, cur, rfl, _⟩
  · exact ⟨none, 0, by rw [h0]⟩
  · exact ⟨_, _, rfl⟩
theorem POw.kept {S : Nat → Prop} {B : Nat} {w w' : World} {v : Value} {l : List Q4} (h : POw B w v l) (hk : Kept S w w') (hs : ∀ k, B ≤ k → ¬ S k) : POw B w' v l := by
  refine ⟨h.1, ?_⟩
  rcases h.2 with hn | ⟨r, cap, cur, rfl, hb, hr, rest⟩
  · exact .inl hn
  · exact .inr ⟨r, cap, cur, rfl, hb, hk.heap (hs r hb) hr, rest⟩
theorem POw.base {B : Nat} {w : World} {v : Value} {l : List Q4} (h : POw B w v l) (k : Nat) (hk : v.ownBlock = some k) : B ≤ k ∧ k < w.heap.size := by
  rcases h.2 with ⟨rfl, _⟩ | ⟨r, cap, cur, rfl, hb, hr, _⟩
  · cases hk
  · injection hk with hk
    subst hk
    exact ⟨hb, heap_lt hr⟩
theorem POw.at_ {B : Nat} {w : World} {a : Option Addr} {n c : Nat} {l : List Q4} (h : POw B w (.slice a n c) l) {j : Nat} (hj : j < l.length) :
    ∃ r, a = some ⟨r, 0, none⟩ ∧ B ≤ r ∧ w.cell? ⟨r, j * 4, none⟩ = some l[j].a ∧ w.cell? ⟨r, j * 4 + 1, none⟩ = some l[j].b ∧ w.cell? ⟨r, j * 4 + 2, none⟩ = some l[j].c ∧ w.cell? ⟨r, j * 4 + 3, none⟩ = some l[j].d := by
  rcases h.2 with ⟨hv, h0⟩ | ⟨r, cap, cur, hv, hb, hr, _⟩
  · omega
  · injection hv with hv hn hc
    subst hv hn hc
    have hx : ∀ i, i < 4 → ∀ u, (q4l l[j])[i]? = some u → w.cell? ⟨r, 0 + (j * 4 + i), none⟩ = some u := fun i hi u hu => by
      have := h.cells (g := r) rfl (j * 4 + i) u (by rw [q4s_at l j i hj hi]; exact hu)
      rw [addr_add17] at this
      exact this
    simp only [Nat.zero_add] at hx
    exact ⟨r, rfl, hb, hx 0 (by omega) _ rfl, hx 1 (by omega) _ rfl, hx 2 (by omega) _ rfl, hx 3 (by omega) _ rfl⟩
section
variable {Pr : Program} (t : TypeId) (i0 : TypeInfo) (ht : Pr.underlying t = some (.slice 228)) (hi : Pr.info? 228 = some i0) (hz0 : i0.zero = some (.agg #[.nilFunc, .nilFunc, .nilFunc, .nilFunc])) (hz1 : i0.size = 4) (hz2 : i0.bytes = 32)
include ht hi hz0 hz1 hz2
theorem run_append_p1 (w : World) (base : Nat) (ty : TypeId) (v : Value) (ps : List Q4) (hown : POw base w v ps) (b : Nat) (x : Q4) (t' : TypeId) (hb : w.heap[b]? = some (.cells #[x.a, x.b, x.c, x.d] t' (0, 0))) (hu : ∀ u ∈ q4l x, u.oneCell' = true) (hl : ps.length ≤ 1000) (hbase : base ≤ w.heap.size) :
    ∃ a' c' w', (Builtin.append_ #[t, t] ty #[v, .slice (some ⟨b, 0, none⟩) 1 1]).run Pr w = .ok (.slice a' (ps.length + 1) c') w' ∧ POw base w' (.slice a' (ps.length + 1) c') (ps ++ [x]) ∧ w.grownBy w' v.ownBlock ∧ ((Value.slice a' (ps.length + 1) c').ownBlock = v.ownBlock ∨ (Value.slice a' (ps.length + 1) c').ownBlock = some w.heap.size) := by
  obtain ⟨v', w', hrun, h2, h3, _, h5⟩ := run_append_own_at (P := Pr) w base t ty 228 i0 _ 4 32 ht hi hz0 hz1 hz2 rfl (by decide) v ps.length _ hown ⟨b, 0, none⟩ 1 1 (q4s [x]) (by simp [q4s, q4l]) (World.news_of_block hb) (by
    intro u hx
    simp only [q4s, List.flatMap_cons, List.flatMap_nil, List.append_nil] at hx
    exact hu u hx) (by unfold maxLen; omega) (by omega) hbase
  have h2' : POw base w' v' (ps ++ [x]) := by
    unfold POw
    rw [q4s_app, List.length_append]
    exact h2
  obtain ⟨a', c', ee⟩ := h2'.form
  rw [List.length_append] at ee
  have ee : v' = .slice a' (ps.length + 1) c' := ee
  subst ee
  exact ⟨a', c', w', hrun, h2', h3, h5⟩
theorem wpList_append_p1 (w : World) {ops : Array Oper} {rest : List Oper} {o : Oper} {a : Act} {Q : Exit → Act → World → Prop} (hgd : o.guard = none) (s x : Operand)
    (ho : o.op = .call { callee := .builtin .append, args := #[s, x], argTypes := #[t, t] })
    (base : Nat) (v : Value) (ps : List Q4) (hs : a.eval s = v) (hown : POw base w v ps) (b : Nat) (c : Q4) (t' : TypeId) (hx : a.eval x = .slice (some ⟨b, 0, none⟩) 1 1) (hb : w.heap[b]? = some (.cells #[c.a, c.b, c.c, c.d] t' (0, 0))) (hu : ∀ u ∈ q4l c, u.oneCell' = true) (hl : ps.length ≤ 1000) (hbase : base ≤ w.heap.size) (N : Nat) (hN : ps.length + 1 = N)
    (h : ∀ a' c' w', POw base w' (.slice a' N c') (ps ++ [c]) → w.grownBy w' v.ownBlock → ((Value.slice a' N c').ownBlock = v.ownBlock ∨ (Value.slice a' N c').ownBlock = some w.heap.size) → wpList Pr ops Q rest (a.put o.dst (.slice a' N c')) w') : wpList Pr ops Q (o :: rest) a w :=
  wpList_plain hgd fun K hK => by
    subst hN
    obtain ⟨a', c', w', hrun, h2, h3, h4⟩ := run_append_p1 t i0 ht hi hz0 hz1 hz2 w base o.type v ps hown b c t' hb hu hl hbase
    unfold Oper.wp execOp
    simp only [ho, resolve, invoke, builtin, Sem.run_bind, Sem.run_pure, Result.andThen_ok, List.map_toArray, List.map_cons, List.map_nil, hs, hx, hrun]
    exact hK _ _ (h a' c' w' h2 h3 h4)
end
def kpTab : List Int := [0, 33, 8225, 2081, 33, 2080, 33, 32, 1, 2048, 2, 4096, 16414, 222, 65646, 326, 1350, 32774, 1600, 326, 132416]
/-- The table of the kinds' parts. -/
def Tab10 (w : World) : Prop := Lib.TabIs Tryz.prog w "catenary/letter.kindParts" .u32 kpTab
theorem gKp : Tryz.prog.globalNamed "catenary/letter.kindParts" = some 0 := by kernel_rfl
theorem Tab10.cell {w : World} (h : Tab10 w) (i : Nat) (hi : i < 21) : w.cell? ⟨0, i, none⟩ = some (.int .u32 (kpTab.getD i 0)) := Lib.TabIs.cell h gKp i hi
theorem Tab10.kept {S : Nat → Prop} {w w' : World} (h : Tab10 w) (hk : Kept S w w') (hs : ¬ S 0) : Tab10 w' := by
  unfold Tab10 Lib.TabIs World.var? at *
  rw [gKp] at h ⊢
  simp only [Option.bind_some] at h ⊢
  cases hg : w.heap[0]? with
  | none => rw [hg] at h; cases h
  | some o => rw [hk.heap hs hg]; rw [hg] at h; exact h
/-- The part of a number. -/
def PartIs (i : Nat) : Nat → World → Value → Prop :=
  match i with
  | 1 => Part1
  | 2 => Part2
  | 3 => Part3
  | 4 => Part4
  | 14 => Part14
  | 15 => Part15
  | _ => fun _ _ _ => False
theorem PartIs.kept {i : Nat} {S : Nat → Prop} {B : Nat} {w w' : World} {pv : Value} (h : PartIs i B w pv) (hk : Kept S w w') (hs : ∀ k, B ≤ k → ¬ S k) : PartIs i B w' pv := by
  unfold PartIs at h ⊢
  split at h
  · exact Part1.kept h hk hs
  · exact Part2.kept h hk hs
  · exact Part3.kept h hk hs
  · exact Part4.kept h hk hs
  · exact Part14.kept h hk hs
  · exact Part15.kept h hk hs
  · exact h
/-- Each is the part of its number. -/
def PartsAre (ns : List Nat) (B : Nat) (w : World) (ps : List Q4) : Prop := ps.length = ns.length ∧ ∀ j, j < ns.length → PartIs (ns.getD j 0) B w (q4v (ps.getD j q40))
theorem PartsAre.kept {ns : List Nat} {S : Nat → Prop} {B : Nat} {w w' : World} {ps : List Q4} (h : PartsAre ns B w ps) (hk : Kept S w w') (hs : ∀ k, B ≤ k → ¬ S k) : PartsAre ns B w' ps := ⟨h.1, fun j hj => (h.2 j hj).kept hk hs⟩
theorem PartsAre.snoc {ns : List Nat} {B : Nat} {w : World} {ps : List Q4} (h : PartsAre ns B w ps) {i : Nat} {x : Q4} (hx : PartIs i B w (q4v x)) : PartsAre (ns ++ [i]) B w (ps ++ [x]) := by
  refine ⟨by rw [List.length_append, List.length_append, h.1]; rfl, fun j hj => ?_⟩
  rw [List.length_append] at hj
  by_cases e : j < ns.length
  · rw [List.getD_eq_getElem?_getD, List.getD_eq_getElem?_getD, List.getElem?_append_left e, List.getElem?_append_left (by rw [h.1]; exact e)]
    have := h.2 j e
    rw [List.getD_eq_getElem?_getD, List.getD_eq_getElem?_getD] at this
    exact this
  · have hj' : j = ns.length := by simp only [List.length_cons, List.length_nil] at hj; omega
    subst hj'
    have hl := h.1
    simp only [List.getD_eq_getElem?_getD]
    rw [List.getElem?_append_right (Nat.le_refl _), List.getElem?_append_right (by omega)]
    simp [hl]
    exact hx
theorem Part1.q4 {B : Nat} {w : World} {pv : Value} (h : Part1 B w pv) : ∃ x : Q4, pv = .agg #[x.a, x.b, x.c, x.d] ∧ ∀ u ∈ q4l x, u.oneCell' = true := by
  obtain ⟨bm, _, _, s, bw, _, _, rfl, _⟩ := h
  exact ⟨⟨_, _, _, _⟩, rfl, PartAg_one _ _ _ _ _ _ _ _⟩
theorem Part2.q4 {B : Nat} {w : World} {pv : Value} (h : Part2 B w pv) : ∃ x : Q4, pv = .agg #[x.a, x.b, x.c, x.d] ∧ ∀ u ∈ q4l x, u.oneCell' = true := by
  obtain ⟨s, bw, _, _, rfl, _⟩ := h
  exact ⟨⟨_, _, _, _⟩, rfl, PartAg_one _ _ _ _ _ _ _ _⟩
theorem Part3.q4 {B : Nat} {w : World} {pv : Value} (h : Part3 B w pv) : ∃ x : Q4, pv = .agg #[x.a, x.b, x.c, x.d] ∧ ∀ u ∈ q4l x, u.oneCell' = true := by
  obtain ⟨s, bw, _, _, rfl, _⟩ := h
  exact ⟨⟨_, _, _, _⟩, rfl, PartAg_one _ _ _ _ _ _ _ _⟩
theorem Part4.q4 {B : Nat} {w : World} {pv : Value} (h : Part4 B w pv) : ∃ x : Q4, pv = .agg #[x.a, x.b, x.c, x.d] ∧ ∀ u ∈ q4l x, u.oneCell' = true := by
  obtain ⟨s, bw, _, _, rfl, _⟩ := h
  exact ⟨⟨_, _, _, _⟩, rfl, PartAg_one _ _ _ _ _ _ _ _⟩
theorem Part14.q4 {B : Nat} {w : World} {pv : Value} (h : Part14 B w pv) : ∃ x : Q4, pv = .agg #[x.a, x.b, x.c, x.d] ∧ ∀ u ∈ q4l x, u.oneCell' = true := by
  obtain ⟨s, _, rfl, _⟩ := h
  exact ⟨⟨_, _, _, _⟩, rfl, PartAg_one _ _ _ _ _ _ _ _⟩
theorem Part15.q4 {B : Nat} {w : World} {pv : Value} (h : Part15 B w pv) : ∃ x : Q4, pv = .agg #[x.a, x.b, x.c, x.d] ∧ ∀ u ∈ q4l x, u.oneCell' = true := by
  obtain ⟨s, _, rfl, _⟩ := h
  exact ⟨⟨_, _, _, _⟩, rfl, PartAg_one _ _ _ _ _ _ _ _⟩
/-- A block of one value of another type is not the row. -/
theorem OneAt.grow {B : Nat} {w w' : World} {v u : Value} {ps : List Q4} {t : TypeId} {b : Nat} (h : OneAt t b u w) (hrow : POw B w v ps) (hk : Kept (fun i => some i = v.ownBlock) w w') (ht : 228 ≠ t) : OneAt t b u w' := h.kept hk (fun he => own_ne hrow h ht he)
theorem PartIs.grow {i : Nat} {B C : Nat} {w w' : World} {v pv : Value} {ps : List Q4} (h : PartIs i B w pv) (hrow : POw C w v ps) (hk : Kept (fun i => some i = v.ownBlock) w w') : PartIs i B w' pv := by
  unfold PartIs at h ⊢
  split at h
  · obtain ⟨bm, hb, h1, s, bw, b1, b2, e, a1, a2, a3, a4, a5⟩ := h
    exact ⟨bm, hb, h1.grow hrow hk (by decide), s, bw, b1, b2, e, a1.grow hrow hk (by decide), a2.grow hrow hk (by decide), a3.grow hrow hk (by decide), a4.grow hrow hk (by decide), a5.grow hrow hk (by decide)⟩
  · obtain ⟨s, bw, b1, b2, e, a1, a2, a3, a4, a5⟩ := h
    exact ⟨s, bw, b1, b2, e, a1.grow hrow hk (by decide), a2.grow hrow hk (by decide), a3.grow hrow hk (by decide), a4.grow hrow hk (by decide), a5.grow hrow hk (by decide)⟩
  · obtain ⟨s, bw, b1, b2, e, a1, a2, a3, a4, a5⟩ := h
    exact ⟨s, bw, b1, b2, e, a1.grow hrow hk (by decide), a2.grow hrow hk (by decide), a3.grow hrow hk (by decide), a4.grow hrow hk (by decide), a5.grow hrow hk (by decide)⟩
  · obtain ⟨s, bw, b1, b2, e, a1, a2, a3, a4, a5⟩ := h
    exact ⟨s, bw, b1, b2, e, a1.grow hrow hk (by decide), a2.grow hrow hk (by decide), a3.grow hrow hk (by decide), a4.grow hrow hk (by decide), a5.grow hrow hk (by decide)⟩
  · obtain ⟨s, b1, e, a1, a2, a3, a4⟩ := h
    exact ⟨s, b1, e, a1.grow hrow hk (by decide), a2.grow hrow hk (by decide), a3.grow hrow hk (by decide), a4.grow hrow hk (by decide)⟩
  · obtain ⟨s, b1, e, a1, a2, a3, a4⟩ := h
    exact ⟨s, b1, e, a1.grow hrow hk (by decide), a2.grow hrow hk (by decide), a3.grow hrow hk (by decide), a4.grow hrow hk (by decide)⟩
  · exact h
theorem PartsAre.grow {ns : List Nat} {B C : Nat} {w w' : World} {v : Value} {qs ps : List Q4} (h : PartsAre ns B w qs) (hrow : POw C w v ps) (hk : Kept (fun i => some i = v.ownBlock) w w') : PartsAre ns B w' qs := ⟨h.1, fun j hj => (h.2 j hj).grow hrow hk⟩
/-- The numbers below i. -/
def nbelow (ns : List Nat) (i : Nat) : List Nat := ns.filter (fun j => decide (j < i))
def bitN (i : Nat) : Int := ((2 ^ i : Nat) : Int)
/-- What partsOf tells. -/
def PartsE (w : World) (ns : List Nat) (e : Ending) (w' : World) : Prop :=
  ∃ a c ps, e = .returned (.slice a ns.length c) ∧ POw w.heap.size w' (.slice a ns.length c) ps ∧ PartsAre ns w.heap.size w' ps ∧ Kept NoB w w'
def PrtRel (w : World) (ns : List Nat) (ov bv : Value) (wr : World) : Prop :=
  ∃ i ps, i ≤ 18 ∧ bv = .int .u32 (bitN i) ∧ POw w.heap.size wr ov ps ∧ PartsAre (nbelow ns i) w.heap.size wr ps ∧ Kept NoB w wr
set_option maxRecDepth 100000 in
set_option maxHeartbeats 4000000 in
theorem partsOf_12 (w : World) (ht : Tab10 w) : Calls Tryz.prog 146 #[.int .i64 12] w (PartsE w [1, 2, 3, 4, 14]) := by
  obtain ⟨i0, hi0, hz0, hz1, hz2⟩ := info_parts info_part
  have HT := Lib.hid ht
  clear ht
  go_enter Tryz.func146, Tryz.ntmps146
  go_wp2
  go_loopw [3, 4] (PrtRel w [1, 2, 3, 4, 14]) (fun _ b _ => 262144 - (RowKit.intOf b).toNat)
  case atStart => exact ⟨0, [], by omega, rfl, POw.nil _ _, ⟨rfl, fun j hj => absurd hj (by simp [nbelow])⟩, Kept.refl _ _⟩
  case round =>
    obtain ⟨i, ps, hi, rfl, hown, hps, hK⟩ := hrel
    have hcell := (HT.out.kept hK (fun h => h)).cell 12 (by omega)
    rw [show kpTab.getD 12 0 = 16414 from rfl] at hcell
    have HO := Lib.hid hown
    have HP := Lib.hid hps
    have HK := Lib.hid hK
    have hpl : ps.length ≤ 18 := by
      rw [hps.1]
      have := List.length_filter_le (fun j => decide (j < i)) [1, 2, 3, 4, 14]
      unfold nbelow
      simp only [List.length_cons, List.length_nil] at this
      omega
    obtain ⟨oa, oc, rfl⟩ := hown.form
    clear hown hps hK
    have hcase : i = 0 ∨ i = 1 ∨ i = 2 ∨ i = 3 ∨ i = 4 ∨ i = 5 ∨ i = 6 ∨ i = 7 ∨ i = 8 ∨ i = 9 ∨ i = 10 ∨ i = 11 ∨ i = 12 ∨ i = 13 ∨ i = 14 ∨ i = 15 ∨ i = 16 ∨ i = 17 ∨ i = 18 := by omega
    clear hi
    rcases hcase with rfl | rfl | rfl | rfl | rfl | rfl | rfl | rfl | rfl | rfl | rfl | rfl | rfl | rfl | rfl | rfl | rfl | rfl | rfl
    · have hbit : bitN 0 = 1 := rfl
      have hnext : bitN (0 + 1) = 2 := rfl
      have hand : bits .and .u32 (16414 : Int) (1 : Int) = 0 := by decide
      rw [hbit] at *
      clear hbit
      go_wp2
      exact ⟨⟨1, ps, by omega, rfl, HO.out, HP.out, HK.out⟩, by simp [RowKit.intOf]⟩
    · have hbit : bitN 1 = 2 := rfl
      have hnext : bitN (1 + 1) = 4 := rfl
      have hand : bits .and .u32 (16414 : Int) (2 : Int) = 2 := by decide
      rw [hbit] at *
      clear hbit
      go_wp2_with fail
      refine (partAt_1 _ w.heap.size HK.out.size).mono ?_
      rintro e w2 ⟨pv, rfl, hp2, hk2⟩
      obtain ⟨⟨xa, xb, xc, xd⟩, rfl, hone⟩ := Part1.q4 hp2
      simp only
      have hka := hk2.alloc (.cells #[xa, xb, xc, xd] 228 (0, 0))
      have HO2 := Lib.hid (HO.out.kept hka (fun _ _ h => h))
      have HP2 := Lib.hid (HP.out.kept hka (fun _ _ h => h))
      have HX2 : Hid (PartIs 1 w.heap.size _ (q4v ⟨xa, xb, xc, xd⟩)) := Lib.hid (Part1.kept hp2 ((Kept.refl NoB w2).alloc (.cells #[xa, xb, xc, xd] 228 (0, 0))) (fun _ _ h => h))
      have HK2 := Lib.hid (HK.out.trans hka (fun _ _ h => h))
      have HB2 := Lib.hid (heap_alloc_new w2 (.cells #[xa, xb, xc, xd] 228 (0, 0)))
      have HONE := Lib.hid hone
      clear hka hp2 hk2 hone
      go_wp2_with (at_builtin; refine wpList_append_p1 221 i0 Tryz.underlying221 hi0 hz0 hz1 hz2 _ rfl _ _ rfl w.heap.size (.slice oa ps.length oc) ps rfl HO2.out w2.heap.size ⟨xa, xb, xc, xd⟩ _ rfl HB2.out HONE.out (by omega) HK2.out.size (ps.length + 1) rfl ?_; intro a' c' w' hown' hgrow' hat')
      have hk4 : Kept NoB w w' := HK2.out.grown hgrow' (fun i hi => .inr (HO2.out.base i hi).1)
      have hk5 : Kept (fun i => some i = (Value.slice oa ps.length oc).ownBlock) (w2.alloc (.cells #[xa, xb, xc, xd] 228 (0, 0))) w' := (Kept.refl _ _).grown hgrow' (fun i hi => .inl hi.symm)
      refine ⟨⟨2, ps ++ [⟨xa, xb, xc, xd⟩], by omega, rfl, hown', ?_, hk4⟩, by simp [RowKit.intOf]⟩
      exact PartsAre.snoc (ns := nbelow [1, 2, 3, 4, 14] 1) (HP2.out.grow HO2.out hk5) (HX2.out.grow HO2.out hk5)
    · have hbit : bitN 2 = 4 := rfl
      have hnext : bitN (2 + 1) = 8 := rfl
      have hand : bits .and .u32 (16414 : Int) (4 : Int) = 4 := by decide
      rw [hbit] at *
      clear hbit
      go_wp2_with fail
      refine (partAt_2 _ w.heap.size HK.out.size).mono ?_
      rintro e w2 ⟨pv, rfl, hp2, hk2⟩
      obtain ⟨⟨xa, xb, xc, xd⟩, rfl, hone⟩ := Part2.q4 hp2
      simp only
      have hka := hk2.alloc (.cells #[xa, xb, xc, xd] 228 (0, 0))
      have HO2 := Lib.hid (HO.out.kept hka (fun _ _ h => h))
      have HP2 := Lib.hid (HP.out.kept hka (fun _ _ h => h))
      have HX2 : Hid (PartIs 2 w.heap.size _ (q4v ⟨xa, xb, xc, xd⟩)) := Lib.hid (Part2.kept hp2 ((Kept.refl NoB w2).alloc (.cells #[xa, xb, xc, xd] 228 (0, 0))) (fun _ _ h => h))
      have HK2 := Lib.hid (HK.out.trans hka (fun _ _ h => h))
      have HB2 := Lib.hid (heap_alloc_new w2 (.cells #[xa, xb, xc, xd] 228 (0, 0)))
      have HONE := Lib.hid hone
      clear hka hp2 hk2 hone
      go_wp2_with (at_builtin; refine wpList_append_p1 221 i0 Tryz.underlying221 hi0 hz0 hz1 hz2 _ rfl _ _ rfl w.heap.size (.slice oa ps.length oc) ps rfl HO2.out w2.heap.size ⟨xa, xb, xc, xd⟩ _ rfl HB2.out HONE.out (by omega) HK2.out.size (ps.length + 1) rfl ?_; intro a' c' w' hown' hgrow' hat')
      have hk4 : Kept NoB w w' := HK2.out.grown hgrow' (fun i hi => .inr (HO2.out.base i hi).1)
      have hk5 : Kept (fun i => some i = (Value.slice oa ps.length oc).ownBlock) (w2.alloc (.cells #[xa, xb, xc, xd] 228 (0, 0))) w' := (Kept.refl _ _).grown hgrow' (fun i hi => .inl hi.symm)
      refine ⟨⟨3, ps ++ [⟨xa, xb, xc, xd⟩], by omega, rfl, hown', ?_, hk4⟩, by simp [RowKit.intOf]⟩
      exact PartsAre.snoc (ns := nbelow [1, 2, 3, 4, 14] 2) (HP2.out.grow HO2.out hk5) (HX2.out.grow HO2.out hk5)
    · have hbit : bitN 3 = 8 := rfl
      have hnext : bitN (3 + 1) = 16 := rfl
      have hand : bits .and .u32 (16414 : Int) (8 : Int) = 8 := by decide
      rw [hbit] at *
      clear hbit
      go_wp2_with fail
      refine (partAt_3 _ w.heap.size HK.out.size).mono ?_
      rintro e w2 ⟨pv, rfl, hp2, hk2⟩
      obtain ⟨⟨xa, xb, xc, xd⟩, rfl, hone⟩ := Part3.q4 hp2
      simp only
      have hka := hk2.alloc (.cells #[xa, xb, xc, xd] 228 (0, 0))
      have HO2 := Lib.hid (HO.out.kept hka (fun _ _ h => h))
      have HP2 := Lib.hid (HP.out.kept hka (fun _ _ h => h))
      have HX2 : Hid (PartIs 3 w.heap.size _ (q4v ⟨xa, xb, xc, xd⟩)) := Lib.hid (Part3.kept hp2 ((Kept.refl NoB w2).alloc (.cells #[xa, xb, xc, xd] 228 (0, 0))) (fun _ _ h => h))
      have HK2 := Lib.hid (HK.out.trans hka (fun _ _ h => h))
      have HB2 := Lib.hid (heap_alloc_new w2 (.cells #[xa, xb, xc, xd] 228 (0, 0)))
      have HONE := Lib.hid hone
      clear hka hp2 hk2 hone
      go_wp2_with (at_builtin; refine wpList_append_p1 221 i0 Tryz.underlying221 hi0 hz0 hz1 hz2 _ rfl _ _ rfl w.heap.size (.slice oa ps.length oc) ps rfl HO2.out w2.heap.size ⟨xa, xb, xc, xd⟩ _ rfl HB2.out HONE.out (by omega) HK2.out.size (ps.length + 1) rfl ?_; intro a' c' w' hown' hgrow' hat')
      have hk4 : Kept NoB w w' := HK2.out.grown hgrow' (fun i hi => .inr (HO2.out.base i hi).1)
      have hk5 : Kept (fun i => some i = (Value.slice oa ps.length oc).ownBlock) (w2.alloc (.cells #[xa, xb, xc, xd] 228 (0, 0))) w' := (Kept.refl _ _).grown hgrow' (fun i hi => .inl hi.symm)
      refine ⟨⟨4, ps ++ [⟨xa, xb, xc, xd⟩], by omega, rfl, hown', ?_, hk4⟩, by simp [RowKit.intOf]⟩
      exact PartsAre.snoc (ns := nbelow [1, 2, 3, 4, 14] 3) (HP2.out.grow HO2.out hk5) (HX2.out.grow HO2.out hk5)
    · have hbit : bitN 4 = 16 := rfl
      have hnext : bitN (4 + 1) = 32 := rfl
      have hand : bits .and .u32 (16414 : Int) (16 : Int) = 16 := by decide
      rw [hbit] at *
      clear hbit
      go_wp2_with fail
      refine (partAt_4 _ w.heap.size HK.out.size).mono ?_
      rintro e w2 ⟨pv, rfl, hp2, hk2⟩
      obtain ⟨⟨xa, xb, xc, xd⟩, rfl, hone⟩ := Part4.q4 hp2
      simp only
      have hka := hk2.alloc (.cells #[xa, xb, xc, xd] 228 (0, 0))
      have HO2 := Lib.hid (HO.out.kept hka (fun _ _ h => h))
      have HP2 := Lib.hid (HP.out.kept hka (fun _ _ h => h))
      have HX2 : Hid (PartIs 4 w.heap.size _ (q4v ⟨xa, xb, xc, xd⟩)) := Lib.hid (Part4.kept hp2 ((Kept.refl NoB w2).alloc (.cells #[xa, xb, xc, xd] 228 (0, 0))) (fun _ _ h => h))
      have HK2 := Lib.hid (HK.out.trans hka (fun _ _ h => h))
      have HB2 := Lib.hid (heap_alloc_new w2 (.cells #[xa, xb, xc, xd] 228 (0, 0)))
      have HONE := Lib.hid hone
      clear hka hp2 hk2 hone
      go_wp2_with (at_builtin; refine wpList_append_p1 221 i0 Tryz.underlying221 hi0 hz0 hz1 hz2 _ rfl _ _ rfl w.heap.size (.slice oa ps.length oc) ps rfl HO2.out w2.heap.size ⟨xa, xb, xc, xd⟩ _ rfl HB2.out HONE.out (by omega) HK2.out.size (ps.length + 1) rfl ?_; intro a' c' w' hown' hgrow' hat')
      have hk4 : Kept NoB w w' := HK2.out.grown hgrow' (fun i hi => .inr (HO2.out.base i hi).1)
      have hk5 : Kept (fun i => some i = (Value.slice oa ps.length oc).ownBlock) (w2.alloc (.cells #[xa, xb, xc, xd] 228 (0, 0))) w' := (Kept.refl _ _).grown hgrow' (fun i hi => .inl hi.symm)
      refine ⟨⟨5, ps ++ [⟨xa, xb, xc, xd⟩], by omega, rfl, hown', ?_, hk4⟩, by simp [RowKit.intOf]⟩
      exact PartsAre.snoc (ns := nbelow [1, 2, 3, 4, 14] 4) (HP2.out.grow HO2.out hk5) (HX2.out.grow HO2.out hk5)
    · have hbit : bitN 5 = 32 := rfl
      have hnext : bitN (5 + 1) = 64 := rfl
      have hand : bits .and .u32 (16414 : Int) (32 : Int) = 0 := by decide
      rw [hbit] at *
      clear hbit
      go_wp2
      exact ⟨⟨6, ps, by omega, rfl, HO.out, HP.out, HK.out⟩, by simp [RowKit.intOf]⟩
    · have hbit : bitN 6 = 64 := rfl
      have hnext : bitN (6 + 1) = 128 := rfl
      have hand : bits .and .u32 (16414 : Int) (64 : Int) = 0 := by decide
      rw [hbit] at *
      clear hbit
      go_wp2
      exact ⟨⟨7, ps, by omega, rfl, HO.out, HP.out, HK.out⟩, by simp [RowKit.intOf]⟩
    · have hbit : bitN 7 = 128 := rfl
      have hnext : bitN (7 + 1) = 256 := rfl
      have hand : bits .and .u32 (16414 : Int) (128 : Int) = 0 := by decide
      rw [hbit] at *
      clear hbit
      go_wp2
      exact ⟨⟨8, ps, by omega, rfl, HO.out, HP.out, HK.out⟩, by simp [RowKit.intOf]⟩
    · have hbit : bitN 8 = 256 := rfl
      have hnext : bitN (8 + 1) = 512 := rfl
      have hand : bits .and .u32 (16414 : Int) (256 : Int) = 0 := by decide
      rw [hbit] at *
      clear hbit
      go_wp2
      exact ⟨⟨9, ps, by omega, rfl, HO.out, HP.out, HK.out⟩, by simp [RowKit.intOf]⟩
    · have hbit : bitN 9 = 512 := rfl
      have hnext : bitN (9 + 1) = 1024 := rfl
      have hand : bits .and .u32 (16414 : Int) (512 : Int) = 0 := by decide
      rw [hbit] at *
      clear hbit
      go_wp2
      exact ⟨⟨10, ps, by omega, rfl, HO.out, HP.out, HK.out⟩, by simp [RowKit.intOf]⟩
    · have hbit : bitN 10 = 1024 := rfl
      have hnext : bitN (10 + 1) = 2048 := rfl
      have hand : bits .and .u32 (16414 : Int) (1024 : Int) = 0 := by decide
      rw [hbit] at *
      clear hbit
      go_wp2
      exact ⟨⟨11, ps, by omega, rfl, HO.out, HP.out, HK.out⟩, by simp [RowKit.intOf]⟩
    · have hbit : bitN 11 = 2048 := rfl
      have hnext : bitN (11 + 1) = 4096 := rfl
      have hand : bits .and .u32 (16414 : Int) (2048 : Int) = 0 := by decide
      rw [hbit] at *
      clear hbit
      go_wp2
      exact ⟨⟨12, ps, by omega, rfl, HO.out, HP.out, HK.out⟩, by simp [RowKit.intOf]⟩
    · have hbit : bitN 12 = 4096 := rfl
      have hnext : bitN (12 + 1) = 8192 := rfl
      have hand : bits .and .u32 (16414 : Int) (4096 : Int) = 0 := by decide
      rw [hbit] at *
      clear hbit
      go_wp2
      exact ⟨⟨13, ps, by omega, rfl, HO.out, HP.out, HK.out⟩, by simp [RowKit.intOf]⟩
    · have hbit : bitN 13 = 8192 := rfl
      have hnext : bitN (13 + 1) = 16384 := rfl
      have hand : bits .and .u32 (16414 : Int) (8192 : Int) = 0 := by decide
      rw [hbit] at *
      clear hbit
      go_wp2
      exact ⟨⟨14, ps, by omega, rfl, HO.out, HP.out, HK.out⟩, by simp [RowKit.intOf]⟩
    · have hbit : bitN 14 = 16384 := rfl
      have hnext : bitN (14 + 1) = 32768 := rfl
      have hand : bits .and .u32 (16414 : Int) (16384 : Int) = 16384 := by decide
      rw [hbit] at *
      clear hbit
      go_wp2_with fail
      refine (partAt_14 _ w.heap.size HK.out.size).mono ?_
      rintro e w2 ⟨pv, rfl, hp2, hk2⟩
      obtain ⟨⟨xa, xb, xc, xd⟩, rfl, hone⟩ := Part14.q4 hp2
      simp only
      have hka := hk2.alloc (.cells #[xa, xb, xc, xd] 228 (0, 0))
      have HO2 := Lib.hid (HO.out.kept hka (fun _ _ h => h))
      have HP2 := Lib.hid (HP.out.kept hka (fun _ _ h => h))
      have HX2 : Hid (PartIs 14 w.heap.size _ (q4v ⟨xa, xb, xc, xd⟩)) := Lib.hid (Part14.kept hp2 ((Kept.refl NoB w2).alloc (.cells #[xa, xb, xc, xd] 228 (0, 0))) (fun _ _ h => h))
      have HK2 := Lib.hid (HK.out.trans hka (fun _ _ h => h))
      have HB2 := Lib.hid (heap_alloc_new w2 (.cells #[xa, xb, xc, xd] 228 (0, 0)))
      have HONE := Lib.hid hone
      clear hka hp2 hk2 hone
      go_wp2_with (at_builtin; refine wpList_append_p1 221 i0 Tryz.underlying221 hi0 hz0 hz1 hz2 _ rfl _ _ rfl w.heap.size (.slice oa ps.length oc) ps rfl HO2.out w2.heap.size ⟨xa, xb, xc, xd⟩ _ rfl HB2.out HONE.out (by omega) HK2.out.size (ps.length + 1) rfl ?_; intro a' c' w' hown' hgrow' hat')
      have hk4 : Kept NoB w w' := HK2.out.grown hgrow' (fun i hi => .inr (HO2.out.base i hi).1)
      have hk5 : Kept (fun i => some i = (Value.slice oa ps.length oc).ownBlock) (w2.alloc (.cells #[xa, xb, xc, xd] 228 (0, 0))) w' := (Kept.refl _ _).grown hgrow' (fun i hi => .inl hi.symm)
      refine ⟨⟨15, ps ++ [⟨xa, xb, xc, xd⟩], by omega, rfl, hown', ?_, hk4⟩, by simp [RowKit.intOf]⟩
      exact PartsAre.snoc (ns := nbelow [1, 2, 3, 4, 14] 14) (HP2.out.grow HO2.out hk5) (HX2.out.grow HO2.out hk5)
    · have hbit : bitN 15 = 32768 := rfl
      have hnext : bitN (15 + 1) = 65536 := rfl
      have hand : bits .and .u32 (16414 : Int) (32768 : Int) = 0 := by decide
      rw [hbit] at *
      clear hbit
      go_wp2
      exact ⟨⟨16, ps, by omega, rfl, HO.out, HP.out, HK.out⟩, by simp [RowKit.intOf]⟩
    · have hbit : bitN 16 = 65536 := rfl
      have hnext : bitN (16 + 1) = 131072 := rfl
      have hand : bits .and .u32 (16414 : Int) (65536 : Int) = 0 := by decide
      rw [hbit] at *
      clear hbit
      go_wp2
      exact ⟨⟨17, ps, by omega, rfl, HO.out, HP.out, HK.out⟩, by simp [RowKit.intOf]⟩
    · have hbit : bitN 17 = 131072 := rfl
      have hnext : bitN (17 + 1) = 262144 := rfl
      have hand : bits .and .u32 (16414 : Int) (131072 : Int) = 0 := by decide
      rw [hbit] at *
      clear hbit
      go_wp2
      exact ⟨⟨18, ps, by omega, rfl, HO.out, HP.out, HK.out⟩, by simp [RowKit.intOf]⟩
    · have hbit : bitN 18 = 262144 := rfl
      rw [hbit] at *
      clear hbit
      go_wp2
      go_ret
      have hl : ps.length = 5 := HP.out.1
      exact ⟨oa, oc, ps, by rw [hl]; rfl, by have := HO.out; rwa [hl] at this, HP.out, HK.out⟩
set_option maxRecDepth 100000 in
set_option maxHeartbeats 4000000 in
theorem partsOf_17 (w : World) (ht : Tab10 w) : Calls Tryz.prog 146 #[.int .i64 17] w (PartsE w [1, 2, 15]) := by
  obtain ⟨i0, hi0, hz0, hz1, hz2⟩ := info_parts info_part
  have HT := Lib.hid ht
  clear ht
  go_enter Tryz.func146, Tryz.ntmps146
  go_wp2
  go_loopw [3, 4] (PrtRel w [1, 2, 15]) (fun _ b _ => 262144 - (RowKit.intOf b).toNat)
  case atStart => exact ⟨0, [], by omega, rfl, POw.nil _ _, ⟨rfl, fun j hj => absurd hj (by simp [nbelow])⟩, Kept.refl _ _⟩
  case round =>
    obtain ⟨i, ps, hi, rfl, hown, hps, hK⟩ := hrel
    have hcell := (HT.out.kept hK (fun h => h)).cell 17 (by omega)
    rw [show kpTab.getD 17 0 = 32774 from rfl] at hcell
    have HO := Lib.hid hown
    have HP := Lib.hid hps
    have HK := Lib.hid hK
    have hpl : ps.length ≤ 18 := by
      rw [hps.1]
      have := List.length_filter_le (fun j => decide (j < i)) [1, 2, 15]
      unfold nbelow
      simp only [List.length_cons, List.length_nil] at this
      omega
    obtain ⟨oa, oc, rfl⟩ := hown.form
    clear hown hps hK
    have hcase : i = 0 ∨ i = 1 ∨ i = 2 ∨ i = 3 ∨ i = 4 ∨ i = 5 ∨ i = 6 ∨ i = 7 ∨ i = 8 ∨ i = 9 ∨ i = 10 ∨ i = 11 ∨ i = 12 ∨ i = 13 ∨ i = 14 ∨ i = 15 ∨ i = 16 ∨ i = 17 ∨ i = 18 := by omega
    clear hi
    rcases hcase with rfl | rfl | rfl | rfl | rfl | rfl | rfl | rfl | rfl | rfl | rfl | rfl | rfl | rfl | rfl | rfl | rfl | rfl | rfl
    · have hbit : bitN 0 = 1 := rfl
      have hnext : bitN (0 + 1) = 2 := rfl
      have hand : bits .and .u32 (32774 : Int) (1 : Int) = 0 := by decide
      rw [hbit] at *
      clear hbit
      go_wp2
      exact ⟨⟨1, ps, by omega, rfl, HO.out, HP.out, HK.out⟩, by simp [RowKit.intOf]⟩
    · have hbit : bitN 1 = 2 := rfl
      have hnext : bitN (1 + 1) = 4 := rfl
      have hand : bits .and .u32 (32774 : Int) (2 : Int) = 2 := by decide
      rw [hbit] at *
      clear hbit
      go_wp2_with fail
      refine (partAt_1 _ w.heap.size HK.out.size).mono ?_
      rintro e w2 ⟨pv, rfl, hp2, hk2⟩
      obtain ⟨⟨xa, xb, xc, xd⟩, rfl, hone⟩ := Part1.q4 hp2
      simp only
      have hka := hk2.alloc (.cells #[xa, xb, xc, xd] 228 (0, 0))
      have HO2 := Lib.hid (HO.out.kept hka (fun _ _ h => h))
      have HP2 := Lib.hid (HP.out.kept hka (fun _ _ h => h))
      have HX2 : Hid (PartIs 1 w.heap.size _ (q4v ⟨xa, xb, xc, xd⟩)) := Lib.hid (Part1.kept hp2 ((Kept.refl NoB w2).alloc (.cells #[xa, xb, xc, xd] 228 (0, 0))) (fun _ _ h => h))
      have HK2 := Lib.hid (HK.out.trans hka (fun _ _ h => h))
      have HB2 := Lib.hid (heap_alloc_new w2 (.cells #[xa, xb, xc, xd] 228 (0, 0)))
      have HONE := Lib.hid hone
      clear hka hp2 hk2 hone
      go_wp2_with (at_builtin; refine wpList_append_p1 221 i0 Tryz.underlying221 hi0 hz0 hz1 hz2 _ rfl _ _ rfl w.heap.size (.slice oa ps.length oc) ps rfl HO2.out w2.heap.size ⟨xa, xb, xc, xd⟩ _ rfl HB2.out HONE.out (by omega) HK2.out.size (ps.length + 1) rfl ?_; intro a' c' w' hown' hgrow' hat')
      have hk4 : Kept NoB w w' := HK2.out.grown hgrow' (fun i hi => .inr (HO2.out.base i hi).1)
      have hk5 : Kept (fun i => some i = (Value.slice oa ps.length oc).ownBlock) (w2.alloc (.cells #[xa, xb, xc, xd] 228 (0, 0))) w' := (Kept.refl _ _).grown hgrow' (fun i hi => .inl hi.symm)
      refine ⟨⟨2, ps ++ [⟨xa, xb, xc, xd⟩], by omega, rfl, hown', ?_, hk4⟩, by simp [RowKit.intOf]⟩
      exact PartsAre.snoc (ns := nbelow [1, 2, 15] 1) (HP2.out.grow HO2.out hk5) (HX2.out.grow HO2.out hk5)
    · have hbit : bitN 2 = 4 := rfl
      have hnext : bitN (2 + 1) = 8 := rfl
      have hand : bits .and .u32 (32774 : Int) (4 : Int) = 4 := by decide
      rw [hbit] at *
      clear hbit
      go_wp2_with fail
      refine (partAt_2 _ w.heap.size HK.out.size).mono ?_
      rintro e w2 ⟨pv, rfl, hp2, hk2⟩
      obtain ⟨⟨xa, xb, xc, xd⟩, rfl, hone⟩ := Part2.q4 hp2
      simp only
      have hka := hk2.alloc (.cells #[xa, xb, xc, xd] 228 (0, 0))
      have HO2 := Lib.hid (HO.out.kept hka (fun _ _ h => h))
      have HP2 := Lib.hid (HP.out.kept hka (fun _ _ h => h))
      have HX2 : Hid (PartIs 2 w.heap.size _ (q4v ⟨xa, xb, xc, xd⟩)) := Lib.hid (Part2.kept hp2 ((Kept.refl NoB w2).alloc (.cells #[xa, xb, xc, xd] 228 (0, 0))) (fun _ _ h => h))
      have HK2 := Lib.hid (HK.out.trans hka (fun _ _ h => h))
      have HB2 := Lib.hid (heap_alloc_new w2 (.cells #[xa, xb, xc, xd] 228 (0, 0)))
      have HONE := Lib.hid hone
      clear hka hp2 hk2 hone
      go_wp2_with (at_builtin; refine wpList_append_p1 221 i0 Tryz.underlying221 hi0 hz0 hz1 hz2 _ rfl _ _ rfl w.heap.size (.slice oa ps.length oc) ps rfl HO2.out w2.heap.size ⟨xa, xb, xc, xd⟩ _ rfl HB2.out HONE.out (by omega) HK2.out.size (ps.length + 1) rfl ?_; intro a' c' w' hown' hgrow' hat')
      have hk4 : Kept NoB w w' := HK2.out.grown hgrow' (fun i hi => .inr (HO2.out.base i hi).1)
      have hk5 : Kept (fun i => some i = (Value.slice oa ps.length oc).ownBlock) (w2.alloc (.cells #[xa, xb, xc, xd] 228 (0, 0))) w' := (Kept.refl _ _).grown hgrow' (fun i hi => .inl hi.symm)
      refine ⟨⟨3, ps ++ [⟨xa, xb, xc, xd⟩], by omega, rfl, hown', ?_, hk4⟩, by simp [RowKit.intOf]⟩
      exact PartsAre.snoc (ns := nbelow [1, 2, 15] 2) (HP2.out.grow HO2.out hk5) (HX2.out.grow HO2.out hk5)
    · have hbit : bitN 3 = 8 := rfl
      have hnext : bitN (3 + 1) = 16 := rfl
      have hand : bits .and .u32 (32774 : Int) (8 : Int) = 0 := by decide
      rw [hbit] at *
      clear hbit
      go_wp2
      exact ⟨⟨4, ps, by omega, rfl, HO.out, HP.out, HK.out⟩, by simp [RowKit.intOf]⟩
    · have hbit : bitN 4 = 16 := rfl
      have hnext : bitN (4 + 1) = 32 := rfl
      have hand : bits .and .u32 (32774 : Int) (16 : Int) = 0 := by decide
      rw [hbit] at *
      clear hbit
      go_wp2
      exact ⟨⟨5, ps, by omega, rfl, HO.out, HP.out, HK.out⟩, by simp [RowKit.intOf]⟩
    · have hbit : bitN 5 = 32 := rfl
      have hnext : bitN (5 + 1) = 64 := rfl
      have hand : bits .and .u32 (32774 : Int) (32 : Int) = 0 := by decide
      rw [hbit] at *
      clear hbit
      go_wp2
      exact ⟨⟨6, ps, by omega, rfl, HO.out, HP.out, HK.out⟩, by simp [RowKit.intOf]⟩
    · have hbit : bitN 6 = 64 := rfl
      have hnext : bitN (6 + 1) = 128 := rfl
      have hand : bits .and .u32 (32774 : Int) (64 : Int) = 0 := by decide
      rw [hbit] at *
      clear hbit
      go_wp2
      exact ⟨⟨7, ps, by omega, rfl, HO.out, HP.out, HK.out⟩, by simp [RowKit.intOf]⟩
    · have hbit : bitN 7 = 128 := rfl
      have hnext : bitN (7 + 1) = 256 := rfl
      have hand : bits .and .u32 (32774 : Int) (128 : Int) = 0 := by decide
      rw [hbit] at *
      clear hbit
      go_wp2
      exact ⟨⟨8, ps, by omega, rfl, HO.out, HP.out, HK.out⟩, by simp [RowKit.intOf]⟩
    · have hbit : bitN 8 = 256 := rfl
      have hnext : bitN (8 + 1) = 512 := rfl
      have hand : bits .and .u32 (32774 : Int) (256 : Int) = 0 := by decide
      rw [hbit] at *
      clear hbit
      go_wp2
      exact ⟨⟨9, ps, by omega, rfl, HO.out, HP.out, HK.out⟩, by simp [RowKit.intOf]⟩
    · have hbit : bitN 9 = 512 := rfl
      have hnext : bitN (9 + 1) = 1024 := rfl
      have hand : bits .and .u32 (32774 : Int) (512 : Int) = 0 := by decide
      rw [hbit] at *
      clear hbit
      go_wp2
      exact ⟨⟨10, ps, by omega, rfl, HO.out, HP.out, HK.out⟩, by simp [RowKit.intOf]⟩
    · have hbit : bitN 10 = 1024 := rfl
      have hnext : bitN (10 + 1) = 2048 := rfl
      have hand : bits .and .u32 (32774 : Int) (1024 : Int) = 0 := by decide
      rw [hbit] at *
      clear hbit
      go_wp2
      exact ⟨⟨11, ps, by omega, rfl, HO.out, HP.out, HK.out⟩, by simp [RowKit.intOf]⟩
    · have hbit : bitN 11 = 2048 := rfl
      have hnext : bitN (11 + 1) = 4096 := rfl
      have hand : bits .and .u32 (32774 : Int) (2048 : Int) = 0 := by decide
      rw [hbit] at *
      clear hbit
      go_wp2
      exact ⟨⟨12, ps, by omega, rfl, HO.out, HP.out, HK.out⟩, by simp [RowKit.intOf]⟩
    · have hbit : bitN 12 = 4096 := rfl
      have hnext : bitN (12 + 1) = 8192 := rfl
      have hand : bits .and .u32 (32774 : Int) (4096 : Int) = 0 := by decide
      rw [hbit] at *
      clear hbit
      go_wp2
      exact ⟨⟨13, ps, by omega, rfl, HO.out, HP.out, HK.out⟩, by simp [RowKit.intOf]⟩
    · have hbit : bitN 13 = 8192 := rfl
      have hnext : bitN (13 + 1) = 16384 := rfl
      have hand : bits .and .u32 (32774 : Int) (8192 : Int) = 0 := by decide
      rw [hbit] at *
      clear hbit
      go_wp2
      exact ⟨⟨14, ps, by omega, rfl, HO.out, HP.out, HK.out⟩, by simp [RowKit.intOf]⟩
    · have hbit : bitN 14 = 16384 := rfl
      have hnext : bitN (14 + 1) = 32768 := rfl
      have hand : bits .and .u32 (32774 : Int) (16384 : Int) = 0 := by decide
      rw [hbit] at *
      clear hbit
      go_wp2
      exact ⟨⟨15, ps, by omega, rfl, HO.out, HP.out, HK.out⟩, by simp [RowKit.intOf]⟩
    · have hbit : bitN 15 = 32768 := rfl
      have hnext : bitN (15 + 1) = 65536 := rfl
      have hand : bits .and .u32 (32774 : Int) (32768 : Int) = 32768 := by decide
      rw [hbit] at *
      clear hbit
      go_wp2_with fail
      refine (partAt_15 _ w.heap.size HK.out.size).mono ?_
      rintro e w2 ⟨pv, rfl, hp2, hk2⟩
      obtain ⟨⟨xa, xb, xc, xd⟩, rfl, hone⟩ := Part15.q4 hp2
      simp only
      have hka := hk2.alloc (.cells #[xa, xb, xc, xd] 228 (0, 0))
      have HO2 := Lib.hid (HO.out.kept hka (fun _ _ h => h))
      have HP2 := Lib.hid (HP.out.kept hka (fun _ _ h => h))
      have HX2 : Hid (PartIs 15 w.heap.size _ (q4v ⟨xa, xb, xc, xd⟩)) := Lib.hid (Part15.kept hp2 ((Kept.refl NoB w2).alloc (.cells #[xa, xb, xc, xd] 228 (0, 0))) (fun _ _ h => h))
      have HK2 := Lib.hid (HK.out.trans hka (fun _ _ h => h))
      have HB2 := Lib.hid (heap_alloc_new w2 (.cells #[xa, xb, xc, xd] 228 (0, 0)))
      have HONE := Lib.hid hone
      clear hka hp2 hk2 hone
      go_wp2_with (at_builtin; refine wpList_append_p1 221 i0 Tryz.underlying221 hi0 hz0 hz1 hz2 _ rfl _ _ rfl w.heap.size (.slice oa ps.length oc) ps rfl HO2.out w2.heap.size ⟨xa, xb, xc, xd⟩ _ rfl HB2.out HONE.out (by omega) HK2.out.size (ps.length + 1) rfl ?_; intro a' c' w' hown' hgrow' hat')
      have hk4 : Kept NoB w w' := HK2.out.grown hgrow' (fun i hi => .inr (HO2.out.base i hi).1)
      have hk5 : Kept (fun i => some i = (Value.slice oa ps.length oc).ownBlock) (w2.alloc (.cells #[xa, xb, xc, xd] 228 (0, 0))) w' := (Kept.refl _ _).grown hgrow' (fun i hi => .inl hi.symm)
      refine ⟨⟨16, ps ++ [⟨xa, xb, xc, xd⟩], by omega, rfl, hown', ?_, hk4⟩, by simp [RowKit.intOf]⟩
      exact PartsAre.snoc (ns := nbelow [1, 2, 15] 15) (HP2.out.grow HO2.out hk5) (HX2.out.grow HO2.out hk5)
    · have hbit : bitN 16 = 65536 := rfl
      have hnext : bitN (16 + 1) = 131072 := rfl
      have hand : bits .and .u32 (32774 : Int) (65536 : Int) = 0 := by decide
      rw [hbit] at *
      clear hbit
      go_wp2
      exact ⟨⟨17, ps, by omega, rfl, HO.out, HP.out, HK.out⟩, by simp [RowKit.intOf]⟩
    · have hbit : bitN 17 = 131072 := rfl
      have hnext : bitN (17 + 1) = 262144 := rfl
      have hand : bits .and .u32 (32774 : Int) (131072 : Int) = 0 := by decide
      rw [hbit] at *
      clear hbit
      go_wp2
      exact ⟨⟨18, ps, by omega, rfl, HO.out, HP.out, HK.out⟩, by simp [RowKit.intOf]⟩
    · have hbit : bitN 18 = 262144 := rfl
      rw [hbit] at *
      clear hbit
      go_wp2
      go_ret
      have hl : ps.length = 3 := HP.out.1
      exact ⟨oa, oc, ps, by rw [hl]; rfl, by have := HO.out; rwa [hl] at this, HP.out, HK.out⟩
end Go.Proofs.YtabmipjpgofgpaaGreatDoor
