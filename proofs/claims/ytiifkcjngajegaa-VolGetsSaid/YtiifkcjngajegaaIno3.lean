/-
  Layer 28: Grow of both. Layer 28: Cut of both. Layer 28: InodeTurns. An inode that came in: opened. Layer 28: InodeBack. InodeBack, of an inode that came in.
-/
import Derived.Test.YtiifkcjngajegaaIno2
import Derived.Test.YtiifkcjngajegaaFrameP
import Derived.Test.YtiifkcjngajegaaBitO
import Derived.Deep.SlicePairs
import Derived.Lib.SmallJoins
namespace Go.Proofs.Ytiifkcjngajegaa
open Go.RowKit
set_option linter.unusedVariables false

/-- What Grow tells. -/
def grE (m s : Int) (l : List Xt) (z : Int) (bs : List Int) : Int := if chk28 m s l = 0 then (if m = 0 ∨ z < s then 12 else ofE m z (blk l ++ bs)) else chk28 m s l
def grR (m s : Int) (l : List Xt) (z : Int) (bs : List Int) : Int × Int × List Xt := if chk28 m s l = 0 ∧ ¬ (m = 0 ∨ z < s) then ofR m z (blk l ++ bs) else (0, 0, [])
theorem IRes.zero {er q : Int} {w w' : World} (hq : q = er) (hk : Kept NoB w w') : IRes er 0 0 [] w (.returned (.tuple #[iv28 0 0 (.slice none 0 0), .int .i64 q])) w' := by
  subst hq; exact ⟨none, 0, rfl, XSl.nil _ _, hk⟩
theorem IRes.mk {er q m s : Int} {l : List Xt} {u : Value} {w w' : World} (hq : q = er) (h : XSl w' (fun k => w.heap.size ≤ k) u l) (hk : Kept NoB w w') : IRes er m s l w (.returned (.tuple #[iv28 m s u, .int .i64 q])) w' := by
  subst hq
  obtain ⟨a, c, rfl, _⟩ := id h
  exact ⟨a, c, rfl, h, hk⟩
end Go.Proofs.Ytiifkcjngajegaa
namespace Go.Proofs.Ytiifkcjngajegaa
open Go.RowKit
set_option linter.unusedVariables false

/-- What Cut tells. -/
def ctE (m s : Int) (l : List Xt) (z : Int) : Int := if chk28 m s l = 0 then (if m = 0 then 12 else if z < 0 ∨ s < z then 20 else ofE m z ((blk l).take (need28 z).toNat)) else chk28 m s l
def ctOk (m s : Int) (l : List Xt) (z : Int) : Prop := chk28 m s l = 0 ∧ m ≠ 0 ∧ ¬ (z < 0 ∨ s < z)
instance (m s : Int) (l : List Xt) (z : Int) : Decidable (ctOk m s l z) := by unfold ctOk; exact inferInstance
def ctR (m s : Int) (l : List Xt) (z : Int) : Int × Int × List Xt := if ctOk m s l z then ofR m z ((blk l).take (need28 z).toNat) else (0, 0, [])
def ctB (m s : Int) (l : List Xt) (z : Int) : List Int := if ctOk m s l z then (blk l).drop (need28 z).toNat else []
theorem ctOk.err {m s : Int} {l : List Xt} {z : Int} (h : ctOk m s l z) : ctE m s l z = ofE m z ((blk l).take (need28 z).toNat) := by
  unfold ctE; rw [if_pos h.1, if_neg h.2.1, if_neg h.2.2]
/-- An inode, numbers, and an error. -/
def IRes3 (er m s : Int) (l : List Xt) (D : List Int) (w : World) (e : Ending) (w' : World) : Prop := ∃ a c b d, e = .returned (.tuple #[iv28 m s (.slice a l.length c), .slice b D.length d, .int .i64 er]) ∧ XSl w' (fun k => w.heap.size ≤ k) (.slice a l.length c) l ∧ NSl w' (fun k => w.heap.size ≤ k) (.slice b D.length d) D ∧ Kept NoB w w'
theorem IRes3.zero {er q : Int} {w w' : World} (hq : q = er) (hk : Kept NoB w w') : IRes3 er 0 0 [] [] w (.returned (.tuple #[iv28 0 0 (.slice none 0 0), .slice none 0 0, .int .i64 q])) w' := by
  subst hq; exact ⟨none, 0, none, 0, rfl, XSl.nil _ _, NSl.nil _ _, hk⟩
theorem IRes3.mk {er q m s : Int} {l : List Xt} {D : List Int} {u v : Value} {w w' : World} (hq : q = er) (h : XSl w' (fun k => w.heap.size ≤ k) u l) (hv : NSl w' (fun k => w.heap.size ≤ k) v D) (hk : Kept NoB w w') : IRes3 er m s l D w (.returned (.tuple #[iv28 m s u, v, .int .i64 q])) w' := by
  subst hq
  obtain ⟨a, c, rfl, _⟩ := id h
  obtain ⟨b, d, rfl, _⟩ := id hv
  exact ⟨a, c, b, d, rfl, h, hv, hk⟩
theorem nsl_drop {F : Nat → Prop} {w : World} {a : Option Addr} {n cap : Nat} {l : List Int} (h : NSl w F (.slice a n cap) l) {k : Nat} (hk : k ≤ l.length) : NSl w F (.slice (if cap = k then a else a.map (·.add k)) (n - k) (cap - k)) (l.drop k) := by
  obtain ⟨a', cap', h1, h2, h3, h4, h5⟩ := h
  injection h1 with h1 h6 h7
  subst h1 h6 h7
  refine ⟨_, cap - k, by rw [List.length_drop], by rw [List.length_drop]; omega, by omega, fun h => ?_, fun hl => ?_⟩
  · by_cases e : cap = k
    · omega
    · rw [if_neg e] at h
      have := h4 (by cases a with | none => rfl | some x => cases h)
      omega
  · rw [List.length_drop] at hl
    obtain ⟨b, o, rfl, hF, hb, hc⟩ := h5 (by omega)
    rw [if_neg (by omega)]
    refine ⟨b, o + k, ?_, hF, hb, fun j hj => ?_⟩
    · by_cases hn : k = 0
      · subst hn; rfl
      · simp [Addr.add, hn]
    · rw [List.length_drop] at hj
      rw [Nat.add_assoc, hc (k + j) (by omega)]
      simp
theorem need_mono {z s : Int} (h : z ≤ s) : need28 z ≤ need28 s := by unfold need28; split <;> split <;> omega
theorem need_nn (z : Int) : 0 ≤ need28 z := by unfold need28; split <;> omega
end Go.Proofs.Ytiifkcjngajegaa
namespace Go.Proofs.Ytiifkcjngajegaa
open Go.RowKit
set_option linter.unusedVariables false

theorem grR_len (m s : Int) (l : List Xt) (z : Int) (bs : List Int) : (grR m s l z bs).2.2.length ≤ 8 * l.length + bs.length + 0 * 1 ∨ (grR m s l z bs).2.2.length ≤ (blk l).length + bs.length := by
  right
  unfold grR
  split
  · exact Nat.le_trans (ofR_len _ _ _) (by rw [List.length_append]; exact Nat.le_refl _)
  · simp
theorem grR_len8 (m s : Int) (l : List Xt) (z : Int) (bs : List Int) (hl : l.length ≤ 40) (hb : bs.length ≤ 40) : (grR m s l z bs).2.2.length ≤ 1000 := by
  unfold grR
  split
  · rename_i h
    obtain ⟨_, _, _, _, ⟨hve, _⟩, hl8⟩ := chk_zero h.1
    have hbk : (blk l).length ≤ 8 * l.length := by have := blk_len l; omega
    have := ofR_len m z (blk l ++ bs)
    rw [List.length_append] at this
    omega
  · simp
theorem ctR_len8 (m s : Int) (l : List Xt) (z : Int) (hl : l.length ≤ 40) : (ctR m s l z).2.2.length ≤ 1000 := by
  unfold ctR
  split
  · rename_i h
    obtain ⟨_, _, _, _, ⟨hve, _⟩, hl8⟩ := chk_zero h.1
    have hbk : (blk l).length ≤ 8 * l.length := by have := blk_len l; omega
    have := ofR_len m z ((blk l).take (need28 z).toNat)
    rw [List.length_take] at this
    omega
  · simp
end Go.Proofs.Ytiifkcjngajegaa
namespace Go.Proofs.Ytiifkcjngajegaa
open Go.ChangeShapes Go.WideShapes Go.ChangeAt Go.RowKit Go.Deep
set_option linter.unusedVariables false

theorem pick28 {α : Type} {m : Nat} {Q : Nat → α → Prop} (z : α) (h : ∀ j, j < m → ∃ x, Q j x) : ∃ f : Nat → α, ∀ j, j < m → Q j (f j) :=
  ⟨fun j => if hj : j < m then Classical.choose (h j hj) else z, fun j hj => by
    simp only [dif_pos hj]
    exact Classical.choose_spec (h j hj)⟩
theorem list3v28 {α : Type} {cs : List α} (h : cs.length = 3) : ∃ c0 c1 c2, cs = [c0, c1, c2] := by
  match cs, h with
  | [c0, c1, c2], _ => exact ⟨c0, c1, c2, rfl⟩
section
variable {H : Type} {enc : TypeId × Value → H} {W : World} {base b0 : Nat}
set_option maxRecDepth 100000 in
/-- One cell that reads as a slice of extents. -/
theorem xsl_cell28 {fuel : Nat} {c : Value} {x : DataW H × List MemPlace} (hf : DataW.trod enc Try.prog W base (fun _ => true) true fuel 30 [c] = some x) :
    ∃ l : List Xt, XSl W (fun k => k < W.heap.size) c l := by
  rcases open_slice_pairs Try.underlying30 Try.underlying73 (by kernel_rfl) rfl rfl (by kernel_rfl) (by kernel_rfl) hf with ⟨hcs, _⟩ | ⟨x, len, cap, m, n, V0, V1, D0, D1, P0, P1, hcs, _, hl, hm, hmm, _, hcell⟩
  · simp only [List.cons.injEq, and_true] at hcs
    subst hcs
    exact ⟨[], XSl.nil _ _⟩
  · simp only [List.cons.injEq, and_true] at hcs
    subst hcs
    simp only [if_true] at hmm
    subst hmm
    obtain ⟨f, hf2⟩ := pick28 (α := Xt) (m := m) (Q := fun j p => V0 j = .int .i64 p.1 ∧ V1 j = .int .i64 p.2) (0, 0) (fun j hj => by
      obtain ⟨_, _, g0, g1⟩ := hcell j hj
      obtain ⟨k0, e0, _, _⟩ := DataW.trod_int Try.underlying3 g0
      obtain ⟨k1, e1, _, _⟩ := DataW.trod_int Try.underlying3 g1
      simp only [List.cons.injEq, and_true] at e0 e1
      exact ⟨(k0, k1), e0, e1⟩)
    have hll : ((List.range len).map f).length = len := by simp
    refine ⟨(List.range len).map f, some x, m, by rw [hll], by rw [hll]; exact hl, hm, (fun h => by cases h), fun hp => ?_⟩
    rw [hll] at hp
    obtain ⟨b, o, spot⟩ := x
    have h0 := (hcell 0 (by omega)).1
    have hspot : spot = none := by simpa [Addr.add] using World.cell?_spot h0
    subst hspot
    have hadd : ∀ j, (⟨b, o, none⟩ : Addr).add j = ⟨b, o + j, none⟩ := fun j => by unfold Addr.add; split <;> simp_all
    have hbl := World.block_lt_of_cell? W _ h0
    refine ⟨b, o, rfl, by simpa [hadd] using hbl, by simpa [hadd] using hbl, fun j hj => ?_⟩
    rw [hll] at hj
    obtain ⟨e0, e1, _, _⟩ := hcell j (by omega)
    obtain ⟨q0, q1⟩ := hf2 j (by omega)
    rw [hadd, q0] at e0
    rw [hadd, q1] at e1
    rw [xth_eq (by rw [hll]; exact hj)]
    simp only [List.getElem_map, List.getElem_range]
    exact ⟨e0, e1⟩
/-- The value is an inode. -/
def InoV (w : World) (v : Value) (o : Int × Int × List Xt) : Prop := ∃ u, v = iv28 o.1 o.2.1 u ∧ XSl w (fun k => k < w.heap.size) u o.2.2 ∧ (-9223372036854775808 ≤ o.1 ∧ o.1 ≤ 9223372036854775807) ∧ -9223372036854775808 ≤ o.2.1 ∧ o.2.1 ≤ 9223372036854775807
set_option maxRecDepth 100000 in
/-- An inode by value. -/
theorem ino_open {r : Reach} {v : Value} {d : DataW H} {p : List MemPlace} (hv : Value.okWide Try.prog W r b0 32 v)
    (h : DataW.Trod enc Try.prog W base (fun _ => true) true 32 v d p) : ∃ o : Int × Int × List Xt, InoV W v o := by
  obtain ⟨cs, rfl, hsz⟩ := okWide_struct Try.underlying32 hv
  have hC : Try.prog.cellsOf 32 = 3 := by kernel_rfl
  obtain ⟨l⟩ := cs
  obtain ⟨c0, c1, c2, rfl⟩ := list3v28 (cs := l) (hsz.trans hC)
  obtain ⟨fuel, hf⟩ := h
  obtain ⟨xs, n', _, _, _, hxl, hg⟩ := DataW.trod_struct Try.underlying32 (by simpa [Value.cells] using hf)
  have hxl3 : xs.length = 3 := hxl
  match xs, hxl3 with
  | [y0, y1, y2], _ =>
    have g0 : DataW.trod enc Try.prog W base (fun _ => true) true n' 3 [c0] = some y0 := hg 0 _ rfl
    have g1 : DataW.trod enc Try.prog W base (fun _ => true) true n' 3 [c1] = some y1 := hg 1 _ rfl
    have g2 : DataW.trod enc Try.prog W base (fun _ => true) true n' 30 [c2] = some y2 := hg 2 _ rfl
    obtain ⟨k0, e0, _, w0⟩ := DataW.trod_int Try.underlying3 g0
    obtain ⟨k1, e1, _, w1⟩ := DataW.trod_int Try.underlying3 g1
    obtain ⟨l, hl⟩ := xsl_cell28 g2
    simp only [List.cons.injEq, and_true] at e0 e1
    subst e0 e1
    exact ⟨(k0, k1, l), c2, rfl, hl, bounds_i64 w0, bounds_i64 w1⟩
end
end Go.Proofs.Ytiifkcjngajegaa
namespace Go.Proofs.Ytiifkcjngajegaa
open Go.RowKit
set_option linter.unusedVariables false

theorem grR_bad {m s z : Int} {l : List Xt} {bs : List Int} (h : grE m s l z bs ≠ 0) : grR m s l z bs = (0, 0, []) := by
  unfold grE at h
  unfold grR
  by_cases h1 : chk28 m s l = 0
  · rw [if_pos h1] at h
    by_cases h2 : m = 0 ∨ z < s
    · rw [if_neg (fun hh => hh.2 h2)]
    · rw [if_neg h2] at h
      rw [if_pos ⟨h1, h2⟩]
      unfold ofR
      rw [if_neg h]
  · rw [if_neg (fun hh => h1 hh.1)]
/-- What grew is cut to what it was. -/
theorem back28 {m s z : Int} {l : List Xt} {bs : List Int} (hb : ∀ x ∈ bs, -9223372036854775808 ≤ x ∧ x ≤ 9223372036854775807) (h : grE m s l z bs = 0) :
    ∃ E, grR m s l z bs = (m, z, E) ∧ blk E = blk l ++ bs ∧ ctE m z E s = 0 ∧ ctR m z E s = (m, s, l) ∧ ctB m z E s = bs := by
  unfold grE at h
  by_cases h1 : chk28 m s l = 0
  · rw [if_pos h1] at h
    by_cases h2 : m = 0 ∨ z < s
    · rw [if_pos h2] at h; cases h
    · rw [if_neg h2] at h
      obtain ⟨hm0, hm2, hs0, hs5, ⟨hve, hadj, hdis, hlen⟩, hl8⟩ := chk_zero h1
      have hbr : ∀ x ∈ blk l ++ bs, -9223372036854775808 ≤ x ∧ x ≤ 9223372036854775807 := fun x hx => by
        rcases List.mem_append.1 hx with hx | hx
        · unfold blk at hx
          obtain ⟨e, he1, he2⟩ := List.mem_flatMap.1 hx
          have := (eblk_mem (hve e he1)).1 he2
          obtain ⟨_, _, _, _, _⟩ := hve e he1
          omega
        · exact hb x hx
      have hE := blk_exts hbr
      have hr : grR m s l z bs = (m, z, exts (blk l ++ bs)) := by
        unfold grR
        rw [if_pos ⟨h1, h2⟩]
        unfold ofR
        rw [if_pos h]
      have hc : chk28 m z (exts (blk l ++ bs)) = 0 := by
        unfold ofE at h
        by_cases h0 : m = 0
        · exact absurd (.inl h0) h2
        · rwa [if_neg h0] at h
      have hn : (need28 s).toNat = (blk l).length := by omega
      have hok : ctOk m z (exts (blk l ++ bs)) s := ⟨hc, fun h0 => h2 (.inl h0), fun h0 => by rcases h0 with h0 | h0 <;> omega⟩
      have ht : (blk (exts (blk l ++ bs))).take (need28 s).toNat = blk l := by rw [hE, hn, List.take_left']; rfl
      have hd : (blk (exts (blk l ++ bs))).drop (need28 s).toNat = bs := by rw [hE, hn, List.drop_left']; rfl
      have hof : ofE m s (blk l) = 0 := by
        unfold ofE
        rw [if_neg (fun h0 => h2 (.inl h0)), exts_blk hve hadj, h1]
      refine ⟨_, hr, hE, ?_, ?_, ?_⟩
      · rw [hok.err, ht, hof]
      · unfold ctR
        rw [if_pos hok, ht]
        unfold ofR
        rw [if_pos hof, exts_blk hve hadj]
      · unfold ctB
        rw [if_pos hok, hd]
  · rw [if_neg h1] at h; exact absurd h h1
end Go.Proofs.Ytiifkcjngajegaa
namespace Go.Proofs.Ytiifkcjngajegaa
open Go.RowKit
end Go.Proofs.Ytiifkcjngajegaa
