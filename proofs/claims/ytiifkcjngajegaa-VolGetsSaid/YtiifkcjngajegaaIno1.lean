/-
  Inodes, plainly: blocks of extents, extents of blocks, what is valid. Extents and inodes in memory; extents compared. Package inode and its answer: Same, Need. Package inode: Blocks (what the function literal does, and the whole). The chapter's inodes: Blocks, Same. Package inode: extents. Package inode: placed, Check. Package inode: Check.
-/
import Derived.Test.YtiifkcjngajegaaBase
import Derived.IntWalk
import Derived.Test.YtiifkcjngajegaaBit2
import Derived.Deep.QuietTactic
import Derived.BigQuiet
import Derived.Deep.RegionHeld3
namespace Go.Proofs.Ytiifkcjngajegaa
open Go.RowKit
set_option linter.unusedVariables false

abbrev Xt := Int × Int
def xth (l : List Xt) (i : Nat) : Xt := l.getD i (0, 0)
theorem xth_eq {l : List Xt} {i : Nat} (h : i < l.length) : xth l i = l[i] := by unfold xth; rw [List.getD_eq_getElem?_getD, List.getElem?_eq_getElem h]; rfl
theorem xth_mem {l : List Xt} {i : Nat} (h : i < l.length) : xth l i ∈ l := by rw [xth_eq h]; exact List.getElem_mem h
theorem xtake_snoc {l : List Xt} {j : Nat} (h : j < l.length) : l.take (j + 1) = l.take j ++ [xth l j] := by
  rw [List.take_succ_eq_append_getElem h, xth_eq h]
/-- The first k blocks from s on. -/
def run28 (s : Int) (k : Nat) : List Int := (List.range k).map fun i : Nat => IntKind.i64.wrap (s + (i : Int))
theorem run28_succ (s : Int) (k : Nat) : run28 s (k + 1) = run28 s k ++ [IntKind.i64.wrap (s + (k : Int))] := by
  unfold run28; rw [List.range_succ, List.map_append]; rfl
theorem run28_len (s : Int) (k : Nat) : (run28 s k).length = k := by simp [run28]
/-- An extent's blocks. -/
def eblk (e : Xt) : List Int := if 1 ≤ e.2 ∧ e.2 ≤ 8 then run28 e.1 e.2.toNat else []
theorem eblk_len (e : Xt) : (eblk e).length ≤ 8 := by
  unfold eblk; split
  · rw [run28_len]; omega
  · simp
def blk (l : List Xt) : List Int := l.flatMap eblk
theorem blk_nil : blk [] = [] := rfl
theorem blk_app (l m : List Xt) : blk (l ++ m) = blk l ++ blk m := by unfold blk; rw [List.flatMap_append]
theorem blk_one (e : Xt) : blk [e] = eblk e := by unfold blk; simp
theorem blk_snoc (l : List Xt) (e : Xt) : blk (l ++ [e]) = blk l ++ eblk e := by rw [blk_app, blk_one]
theorem blk_len (l : List Xt) : (blk l).length ≤ 8 * l.length := by
  induction l with
  | nil => simp [blk]
  | cons e r ih =>
    have h1 := eblk_len e
    have : blk (e :: r) = eblk e ++ blk r := by unfold blk; rw [List.flatMap_cons]
    rw [this, List.length_append, List.length_cons]; omega
theorem blk_take_len (l : List Xt) (j : Nat) : (blk (l.take j)).length ≤ 8 * l.length := by
  have := blk_len (l.take j)
  have h2 : (l.take j).length ≤ l.length := List.length_take_le' j l
  omega
/-- One block more: onto the last extent, or a new one. -/
def fits28 (l : List Xt) (b : Int) : Bool := match l.getLast? with
  | some (s, n) => decide (n < 8) && decide (IntKind.i64.wrap (s + n) = b)
  | none => false
def addB (l : List Xt) (b : Int) : List Xt := if fits28 l b then l.dropLast ++ [((l.getLast?.getD (0, 0)).1, (l.getLast?.getD (0, 0)).2 + 1)] else l ++ [(b, 1)]
def exts (bs : List Int) : List Xt := bs.foldl addB []
theorem exts_snoc (bs : List Int) (b : Int) : exts (bs ++ [b]) = addB (exts bs) b := by unfold exts; rw [List.foldl_append]; rfl
theorem addB_new {l : List Xt} {b : Int} (h : fits28 l b = false) : addB l b = l ++ [(b, 1)] := by unfold addB; rw [h]; rfl
theorem addB_last (l : List Xt) (s n b : Int) (h1 : n < 8) (h2 : IntKind.i64.wrap (s + n) = b) : addB (l ++ [(s, n)]) b = l ++ [(s, n + 1)] := by
  unfold addB
  have : fits28 (l ++ [(s, n)]) b = true := by unfold fits28; simp [h1, h2]
  rw [this]; simp
theorem fits_snoc (l : List Xt) (s n b : Int) : fits28 (l ++ [(s, n)]) b = (decide (n < 8) && decide (IntKind.i64.wrap (s + n) = b)) := by unfold fits28; simp
theorem snoc28 {l : List Xt} (h : l ≠ []) : ∃ m e, l = m ++ [e] := ⟨l.dropLast, l.getLast h, (List.dropLast_concat_getLast h).symm⟩
theorem addB_len (l : List Xt) (b : Int) : l.length ≤ (addB l b).length ∧ (addB l b).length ≤ l.length + 1 := by
  by_cases h : l = []
  · subst h; rw [addB_new rfl]; simp
  · obtain ⟨m, ⟨s, n⟩, rfl⟩ := snoc28 h
    cases hf : fits28 (m ++ [(s, n)]) b
    · rw [addB_new hf]; simp
    · rw [fits_snoc] at hf
      simp only [Bool.and_eq_true, decide_eq_true_eq] at hf
      rw [addB_last m s n b hf.1 hf.2]; simp
theorem exts_len (bs : List Int) : (exts bs).length ≤ bs.length := by
  have key : ∀ (bs : List Int) (l : List Xt), (bs.foldl addB l).length ≤ l.length + bs.length := by
    intro bs
    induction bs with
    | nil => intro l; simp
    | cons b r ih => intro l; have := ih (addB l b); have := (addB_len l b).2; simp only [List.foldl_cons, List.length_cons]; omega
  have := key bs []
  simpa [exts] using this
def need28 (s : Int) : Int := if s ≤ 0 then 0 else (s - 1) / 64 + 1
/-- No number twice. -/
def dis28 (bs : List Int) : Prop := ∀ i, i < bs.length → ¬ bs.getD i 0 ∈ bs.take i
instance (bs : List Int) : Decidable (dis28 bs) := by unfold dis28; exact inferInstance
def pOk (l : List Xt) (s : Int) : Prop := l.length ≤ 8 ∧ (∀ b ∈ blk l, 0 ≤ b ∧ b ≤ 4095) ∧ dis28 (blk l) ∧ ((blk l).length : Int) = need28 s ∧ exts (blk l) = l
def vE (e : Xt) : Prop := 1 ≤ e.2 ∧ e.2 ≤ 8 ∧ 0 ≤ e.1 ∧ e.1 ≤ 4095 ∧ e.1 + e.2 ≤ 4096
def adjN (l : List Xt) : Prop := ∀ i, i + 1 < l.length → (xth l i).1 + (xth l i).2 ≠ (xth l (i + 1)).1
def cOk (l : List Xt) (s : Int) : Prop := (∀ e ∈ l, vE e) ∧ adjN l ∧ dis28 (blk l) ∧ ((blk l).length : Int) = need28 s
theorem wr28 {x : Int} (h0 : -9223372036854775808 ≤ x) (h1 : x ≤ 9223372036854775807) : IntKind.i64.wrap x = x := IntWalk.i64_in _ (by omega)
theorem eblk_mem {e : Xt} (h : vE e) {b : Int} : b ∈ eblk e ↔ e.1 ≤ b ∧ b < e.1 + e.2 := by
  obtain ⟨h1, h2, h3, h4, h5⟩ := h
  unfold eblk
  rw [if_pos ⟨h1, h2⟩]
  unfold run28
  simp only [List.mem_map, List.mem_range]
  constructor
  · rintro ⟨i, hi, rfl⟩
    rw [wr28 (by omega) (by omega)]; omega
  · intro hb
    refine ⟨(b - e.1).toNat, by omega, ?_⟩
    rw [wr28 (by omega) (by omega)]; omega
theorem eblk_full {e : Xt} (h : vE e) : (eblk e).length = e.2.toNat := by
  unfold eblk; rw [if_pos ⟨h.1, h.2.1⟩, run28_len]
/-- An extent's blocks behind one that does not end where it begins. -/
theorem fold_eblk {e : Xt} (h : vE e) (l : List Xt) (hn : l = [] ∨ ∃ m p, l = m ++ [p] ∧ vE p ∧ p.1 + p.2 ≠ e.1) : (eblk e).foldl addB l = l ++ [e] := by
  obtain ⟨s, n⟩ := e
  obtain ⟨h1, h2, h3, h4, h5⟩ := h
  simp only at h1 h2 h3 h4 h5
  have hf : fits28 l s = false := by
    rcases hn with rfl | ⟨m, ⟨ps, pn⟩, rfl, ⟨g1, g2, g3, g4, g5⟩, hne⟩
    · rfl
    · simp only at g1 g2 g3 g4 g5 hne
      rw [fits_snoc, wr28 (by omega) (by omega), decide_eq_false hne]; simp
  have key : ∀ k : Nat, 1 ≤ k → (k : Int) ≤ n → (run28 s k).foldl addB l = l ++ [(s, (k : Int))] := by
    intro k
    induction k with
    | zero => intro h; omega
    | succ k ih =>
      intro _ hk
      rw [run28_succ, List.foldl_append]
      by_cases hk0 : k = 0
      · subst hk0
        have : IntKind.i64.wrap (s + ((0 : Nat) : Int)) = s := by rw [wr28 (by omega) (by omega)]; omega
        rw [this]
        show addB l s = _
        rw [addB_new hf]; rfl
      · rw [ih (by omega) (by omega)]
        show addB (l ++ [(s, (k : Int))]) _ = _
        rw [addB_last l s k _ (by omega) rfl]
        simp
  have := key n.toNat (by omega) (by omega)
  unfold eblk
  rw [if_pos ⟨h1, h2⟩]
  show (run28 s n.toNat).foldl addB l = _
  rw [this]
  congr 3
  omega
theorem exts_blk {l : List Xt} (hv : ∀ e ∈ l, vE e) (ha : adjN l) : exts (blk l) = l := by
  have key : ∀ j, j ≤ l.length → exts (blk (l.take j)) = l.take j := by
    intro j
    induction j with
    | zero => intro _; rfl
    | succ j ih =>
      intro hj
      rw [xtake_snoc (by omega), blk_snoc]
      unfold exts at ih ⊢
      rw [List.foldl_append, ih (by omega)]
      refine fold_eblk (hv _ (xth_mem (by omega))) _ ?_
      by_cases h0 : j = 0
      · subst h0; exact .inl (by simp)
      · refine .inr ⟨l.take (j - 1), xth l (j - 1), ?_, hv _ (xth_mem (by omega)), ?_⟩
        · rw [← xtake_snoc (by omega)]; congr 1; omega
        · have := ha (j - 1) (by omega)
          rwa [show j - 1 + 1 = j by omega] at this
  have := key l.length (Nat.le_refl _)
  rwa [List.take_length] at this
theorem blk_ge {l : List Xt} (hv : ∀ e ∈ l, vE e) : l.length ≤ (blk l).length := by
  induction l with
  | nil => simp
  | cons e r ih =>
    have h1 := eblk_full (hv e (by simp))
    have h2 := (hv e (by simp)).1
    have : blk (e :: r) = eblk e ++ blk r := by unfold blk; rw [List.flatMap_cons]
    rw [this, List.length_append, List.length_cons]
    have := ih (fun x hx => hv x (by simp [hx]))
    omega
theorem need_le {s : Int} (h : s ≤ 512) : need28 s ≤ 8 := by unfold need28; split <;> omega
theorem cOk_pOk {l : List Xt} {s : Int} (h5 : s ≤ 512) (h : cOk l s) : pOk l s := by
  obtain ⟨hv, ha, hd, hn⟩ := h
  have h8 := need_le h5
  have hg := blk_ge hv
  refine ⟨by omega, fun b hb => ?_, hd, hn, exts_blk hv ha⟩
  unfold blk at hb
  obtain ⟨e, he, hb⟩ := List.mem_flatMap.1 hb
  have := (eblk_mem (hv e he)).1 hb
  obtain ⟨_, _, _, _, _⟩ := hv e he
  omega
/-- What extents of blocks in range are. -/
theorem exts_inv (bs : List Int) (hb : ∀ b ∈ bs, 0 ≤ b ∧ b ≤ 4095) :
    (∀ e ∈ exts bs, vE e) ∧ (∀ i, i + 1 < (exts bs).length → (xth (exts bs) i).1 + (xth (exts bs) i).2 ≠ (xth (exts bs) (i + 1)).1 ∨ (xth (exts bs) i).2 = 8) := by
  have key : ∀ j, j ≤ bs.length → (∀ e ∈ exts (bs.take j), vE e ∧ e.1 + e.2 - 1 ∈ bs) ∧ (∀ i, i + 1 < (exts (bs.take j)).length → (xth (exts (bs.take j)) i).1 + (xth (exts (bs.take j)) i).2 ≠ (xth (exts (bs.take j)) (i + 1)).1 ∨ (xth (exts (bs.take j)) i).2 = 8) := by
    intro j
    induction j with
    | zero => intro _; exact ⟨fun e he => by simp [exts] at he, fun i hi => by simp [exts] at hi⟩
    | succ j ih =>
      intro hj
      obtain ⟨ih1, ih2⟩ := ih (by omega)
      rw [List.take_succ_eq_append_getElem (by omega), exts_snoc]
      have hx := hb _ (List.getElem_mem (show j < bs.length by omega))
      have hxm : bs[j] ∈ bs := List.getElem_mem _
      obtain ⟨b, hbb⟩ : ∃ b, b = bs[j] := ⟨_, rfl⟩
      rw [← hbb] at hx hxm ⊢
      obtain ⟨l, hl⟩ : ∃ l, l = exts (bs.take j) := ⟨_, rfl⟩
      rw [← hl] at ih1 ih2 ⊢
      cases hf : fits28 l b with
      | false =>
        rw [addB_new hf]
        refine ⟨fun e he => ?_, fun i hi => ?_⟩
        · rcases List.mem_append.1 he with he | he
          · exact ih1 e he
          · rw [List.mem_singleton.1 he]
            exact ⟨⟨by simp, by simp, by simp; omega, by simp; omega, by simp; omega⟩, by simpa using hxm⟩
        · simp only [List.length_append, List.length_singleton] at hi
          by_cases hi2 : i + 1 < l.length
          · have e1 : xth (l ++ [(b, 1)]) i = xth l i := by rw [xth_eq (by simp; omega), xth_eq (by omega), List.getElem_append_left (by omega)]
            have e2 : xth (l ++ [(b, 1)]) (i + 1) = xth l (i + 1) := by rw [xth_eq (by simp; omega), xth_eq (by omega), List.getElem_append_left (by omega)]
            rw [e1, e2]; exact ih2 i hi2
          · have hli : l ≠ [] := by intro h; rw [h] at hi; simp at hi
            obtain ⟨m, ⟨s, n⟩, rfl⟩ := snoc28 hli
            have hlen : i = m.length := by simp at hi hi2; omega
            subst hlen
            have e1 : xth (m ++ [(s, n)] ++ [(b, 1)]) m.length = (s, n) := by rw [xth_eq (by simp)]; simp
            have e2 : xth (m ++ [(s, n)] ++ [(b, 1)]) (m.length + 1) = (b, 1) := by rw [xth_eq (by simp)]; simp
            rw [e1, e2]
            obtain ⟨⟨g1, g2, g3, g4, g5⟩, _⟩ := ih1 (s, n) (by simp)
            simp only at g1 g2 g3 g4 g5
            rw [fits_snoc, wr28 (by omega) (by omega)] at hf
            simp only [Bool.and_eq_false_iff, decide_eq_false_iff_not] at hf
            rcases hf with hf | hf
            · exact .inr (show n = 8 by omega)
            · exact .inl hf
      | true =>
        have hli : l ≠ [] := by intro h; rw [h] at hf; cases hf
        obtain ⟨m, ⟨s, n⟩, rfl⟩ := snoc28 hli
        obtain ⟨⟨g1, g2, g3, g4, g5⟩, _⟩ := ih1 (s, n) (by simp)
        simp only at g1 g2 g3 g4 g5
        rw [fits_snoc, wr28 (by omega) (by omega)] at hf
        simp only [Bool.and_eq_true, decide_eq_true_eq] at hf
        rw [addB_last m s n b hf.1 (by rw [wr28 (by omega) (by omega)]; exact hf.2)]
        refine ⟨fun e he => ?_, fun i hi => ?_⟩
        · rcases List.mem_append.1 he with he | he
          · exact ih1 e (by simp [he])
          · rw [List.mem_singleton.1 he]
            refine ⟨⟨by simp; omega, by simp; omega, g3, g4, by simp; omega⟩, ?_⟩
            have : s + (n + 1) - 1 = b := by omega
            show s + (n + 1) - 1 ∈ bs
            rw [this]; exact hxm
        · simp only [List.length_append, List.length_singleton] at hi
          have h1 := ih2 i (by simpa using hi)
          have e1 : xth (m ++ [(s, n + 1)]) i = xth (m ++ [(s, n)]) i := by rw [xth_eq (by simp; omega), xth_eq (by simp; omega), List.getElem_append_left (by omega), List.getElem_append_left (by omega)]
          have e2 : (xth (m ++ [(s, n + 1)]) (i + 1)).1 = (xth (m ++ [(s, n)]) (i + 1)).1 := by
            rw [xth_eq (by simp; omega), xth_eq (by simp; omega)]
            by_cases h : i + 1 < m.length
            · rw [List.getElem_append_left h, List.getElem_append_left h]
            · rw [List.getElem_append_right (by omega), List.getElem_append_right (by omega)]; simp
          rw [e1, e2]; exact h1
  have := key bs.length (Nat.le_refl _)
  rw [List.take_length] at this
  exact ⟨fun e he => (this.1 e he).1, this.2⟩
theorem blk_split {l : List Xt} {i : Nat} (h : i + 1 < l.length) : ∃ a c, l = a ++ [xth l i, xth l (i + 1)] ++ c := by
  refine ⟨l.take i, l.drop (i + 2), ?_⟩
  have h1 : l.take (i + 2) = l.take i ++ [xth l i] ++ [xth l (i + 1)] := by rw [xtake_snoc (show i + 1 < l.length by omega), xtake_snoc (by omega)]
  have h2 : l = l.take (i + 2) ++ l.drop (i + 2) := (List.take_append_drop _ _).symm
  rw [h1] at h2
  simpa using h2
theorem pOk_cOk {l : List Xt} {s : Int} (h5 : s ≤ 512) (h : pOk l s) : cOk l s := by
  obtain ⟨h8, hb, hd, hn, he⟩ := h
  obtain ⟨h1, h2⟩ := exts_inv (blk l) hb
  rw [he] at h1 h2
  have hnl := need_le h5
  refine ⟨h1, fun i hi => ?_, hd, hn⟩
  rcases h2 i hi with h | h
  · exact h
  · exfalso
    obtain ⟨a, c, hl⟩ := blk_split hi
    have v1 := h1 _ (xth_mem (show i < l.length by omega))
    have v2 := h1 _ (xth_mem hi)
    have hlen : 9 ≤ (blk l).length := by
      rw [hl]
      rw [blk_app, blk_app]
      have : blk [xth l i, xth l (i + 1)] = eblk (xth l i) ++ eblk (xth l (i + 1)) := by unfold blk; simp
      rw [this]
      simp only [List.length_append, eblk_full v1, eblk_full v2]
      have := v2.1
      omega
    omega
instance (l : List Xt) (s : Int) : Decidable (pOk l s) := by unfold pOk; exact inferInstance
def okB (l : List Xt) (s : Int) : Bool := decide (pOk l s)
def chk28 (m s : Int) (l : List Xt) : Int := if m < 0 ∨ 2 < m then 1 else if 512 < s then 17 else if s < 0 ∨ (m = 0 ∧ 0 < s) ∨ okB l s = false then 4 else 0
end Go.Proofs.Ytiifkcjngajegaa
namespace Go.Proofs.Ytiifkcjngajegaa
open Go.RowKit
set_option linter.unusedVariables false

def celX (l : List Xt) : List Value := l.flatMap fun e => [.int .i64 e.1, .int .i64 e.2]
theorem celX_len (l : List Xt) : (celX l).length = l.length * 2 := by
  induction l with
  | nil => rfl
  | cons e r ih => unfold celX at ih ⊢; rw [List.flatMap_cons, List.length_append, ih]; simp; omega
theorem celX_app (l m : List Xt) : celX (l ++ m) = celX l ++ celX m := by unfold celX; rw [List.flatMap_append]
theorem celX_at {l : List Xt} {i : Nat} (h : i < l.length) : (celX l)[i * 2]? = some (.int .i64 (xth l i).1) ∧ (celX l)[i * 2 + 1]? = some (.int .i64 (xth l i).2) := by
  induction l generalizing i with
  | nil => simp at h
  | cons e r ih =>
    have hc : celX (e :: r) = .int .i64 e.1 :: .int .i64 e.2 :: celX r := by unfold celX; rw [List.flatMap_cons]; rfl
    rw [hc]
    cases i with
    | zero => exact ⟨rfl, rfl⟩
    | succ i =>
      have := ih (i := i) (by simpa using h)
      rw [show (i + 1) * 2 = i * 2 + 1 + 1 by omega]
      exact this
/-- A slice that reads as these extents, in blocks of F. -/
def XSl (w : World) (F : Nat → Prop) (v : Value) (l : List Xt) : Prop :=
  ∃ a cap, v = .slice a l.length cap ∧ l.length ≤ cap ∧ cap ≤ maxLen ∧ (a = none → cap = 0) ∧
    (0 < l.length → ∃ b o, a = some ⟨b, o, none⟩ ∧ F b ∧ b < w.heap.size ∧ ∀ j, j < l.length → w.cell? ⟨b, o + j * 2, none⟩ = some (.int .i64 (xth l j).1) ∧ w.cell? ⟨b, o + j * 2 + 1, none⟩ = some (.int .i64 (xth l j).2))
theorem XSl.nil (w : World) (F : Nat → Prop) : XSl w F (.slice none 0 0) [] := ⟨none, 0, rfl, Nat.le_refl _, Nat.zero_le _, fun _ => rfl, fun h => absurd h (by simp)⟩
theorem XSl.kept {S F : Nat → Prop} {w w' : World} {v : Value} {l : List Xt} (h : XSl w F v l) (hk : Kept S w w') (hs : ∀ k, k < w.heap.size → F k → ¬ S k) : XSl w' F v l := by
  obtain ⟨a, cap, h1, h2, h3, h4, h5⟩ := h
  refine ⟨a, cap, h1, h2, h3, h4, fun hl => ?_⟩
  obtain ⟨b, o, ha, hF, hb, hc⟩ := h5 hl
  exact ⟨b, o, ha, hF, Nat.lt_of_lt_of_le hb hk.size, fun j hj => ⟨hk.cell (p := ⟨b, o + j * 2, none⟩) (hs b hb hF) (hc j hj).1, hk.cell (p := ⟨b, o + j * 2 + 1, none⟩) (hs b hb hF) (hc j hj).2⟩⟩
theorem XSl.no {F : Nat → Prop} {w w' : World} {v : Value} {l : List Xt} (h : XSl w F v l) (hk : Kept NoB w w') : XSl w' F v l := h.kept hk (fun _ _ _ h => h)
theorem XSl.mono {F G : Nat → Prop} {w : World} {v : Value} {l : List Xt} (h : XSl w F v l) (hG : ∀ k, k < w.heap.size → F k → G k) : XSl w G v l := by
  obtain ⟨a, cap, h1, h2, h3, h4, h5⟩ := h
  refine ⟨a, cap, h1, h2, h3, h4, fun hl => ?_⟩
  obtain ⟨b, o, ha, hF, hb, hc⟩ := h5 hl
  exact ⟨b, o, ha, hG b hb hF, hb, hc⟩
theorem XSl.any {F : Nat → Prop} {w : World} {v : Value} {l : List Xt} (h : XSl w F v l) : XSl w (fun _ => True) v l := h.mono (fun _ _ _ => trivial)
theorem XSl.at_ {F : Nat → Prop} {w : World} {a : Option Addr} {n cap : Nat} {l : List Xt} (h : XSl w F (.slice a n cap) l) {j : Nat} (hj : j < l.length) :
    ∃ b o, a = some ⟨b, o, none⟩ ∧ F b ∧ b < w.heap.size ∧ w.cell? ⟨b, o + j * 2, none⟩ = some (.int .i64 (xth l j).1) ∧ w.cell? ⟨b, o + j * 2 + 1, none⟩ = some (.int .i64 (xth l j).2) := by
  obtain ⟨a', cap', h1, h2, h3, h4, h5⟩ := h
  injection h1 with h1 _ _
  subst h1
  obtain ⟨b, o, ha, hF, hb, hc⟩ := h5 (by omega)
  exact ⟨b, o, ha, hF, hb, (hc j hj).1, (hc j hj).2⟩
/-- A row of extents of the call's own, of the element type t. -/
def XOwn (t : TypeId) (B : Nat) (w : World) (v : Value) (l : List Xt) : Prop := w.ownsRow B t 2 v l.length (celX l)
theorem XOwn.nil (t : TypeId) (B : Nat) (w : World) : XOwn t B w (.slice none 0 0) [] := World.ownsRow_nil _ _ _ _
theorem XOwn.form {t : TypeId} {B : Nat} {w : World} {v : Value} {l : List Xt} (h : XOwn t B w v l) : ∃ a c, v = .slice a l.length c := by
  rcases h.2 with ⟨rfl, h0⟩ | ⟨r, cap, cur, rfl, _⟩
  · exact ⟨none, 0, by rw [h0]⟩
  · exact ⟨_, _, rfl⟩
theorem XOwn.low {t : TypeId} {B C : Nat} {w : World} {v : Value} {l : List Xt} (h : XOwn t B w v l) (hC : C ≤ B) : XOwn t C w v l := by
  refine ⟨h.1, ?_⟩
  rcases h.2 with hn | ⟨g, cap, cur, hv, hb, rest⟩
  · exact .inl hn
  · exact .inr ⟨g, cap, cur, hv, by omega, rest⟩
theorem XOwn.kept {t : TypeId} {S : Nat → Prop} {B : Nat} {w w' : World} {v : Value} {l : List Xt} (h : XOwn t B w v l) (hk : Kept S w w') (hs : ∀ k, v.ownBlock = some k → ¬ S k) : XOwn t B w' v l := by
  refine ⟨h.1, ?_⟩
  rcases h.2 with hn | ⟨r, cap, cur, rfl, hb, hr, rest⟩
  · exact .inl hn
  · exact .inr ⟨r, cap, cur, rfl, hb, hk.heap (hs r rfl) hr, rest⟩
theorem XOwn.no {t : TypeId} {B : Nat} {w w' : World} {v : Value} {l : List Xt} (h : XOwn t B w v l) (hk : Kept NoB w w') : XOwn t B w' v l := h.kept hk (fun _ _ h => h)
theorem XOwn.drewN {t : TypeId} {B : Nat} {w : World} {v : Value} {l : List Xt} (h : XOwn t B w v l) (n : Nat) : XOwn t B (w.drewN n) v l := h
theorem XOwn.sl {t : TypeId} {B : Nat} {w : World} {v : Value} {l : List Xt} (h : XOwn t B w v l) : XSl w (fun k => B ≤ k) v l := by
  rcases h.2 with ⟨rfl, h0⟩ | ⟨r, cap, cur, rfl, hb, hr, hc, hm, hcs, ht⟩
  · obtain rfl : l = [] := List.eq_nil_of_length_eq_zero h0
    exact XSl.nil w _
  · refine ⟨_, cap, rfl, hc, hm, (fun h => by cases h), fun hl => ⟨r, 0, rfl, hb, heap_lt hr, fun j hj => ?_⟩⟩
    have hx := World.ownsRow.cellAt (h : w.ownsRow B t 2 (.slice (some ⟨r, 0, none⟩) l.length cap) l.length (celX l))
    rw [Nat.zero_add, hx (j * 2) (by omega), hx (j * 2 + 1) (by omega)]
    exact celX_at hj
/-- append of one extent that lies in a block of its own. -/
theorem run_append_x {T t : TypeId} {i0 : TypeInfo} {z : Value} (ht : Try.prog.underlying T = some (.slice t)) (hi : Try.prog.info? t = some i0) (hz : i0.zero = some z) (h1 : i0.size = 2) (h2 : i0.bytes = 16) (hzs : z.cells.size = 2)
    (w : World) (base : Nat) (ty : TypeId) (v : Value) (cs : List Xt) (hown : XOwn t base w v cs) (b : Nat) (e : Xt) (hb : w.heap[b]? = some (.cells #[.int .i64 e.1, .int .i64 e.2] t (0, 0))) (hl : cs.length ≤ 100000) (hbase : base ≤ w.heap.size) :
    ∃ a' c' w', (Builtin.append_ #[T, T] ty #[v, .slice (some ⟨b, 0, none⟩) 1 1]).run Try.prog w = .ok (.slice a' (cs.length + 1) c') w' ∧ XOwn t base w' (.slice a' (cs.length + 1) c') (cs ++ [e]) ∧ w.grownBy w' v.ownBlock := by
  obtain ⟨v', w', hrun, r1, r2, _⟩ := run_append_own (P := Try.prog) w base T ty t i0 z 2 16 ht hi hz h1 h2 hzs (by decide) v cs.length (celX cs) hown ⟨b, 0, none⟩ 1 1 [.int .i64 e.1, .int .i64 e.2] rfl (World.news_of_block (cs := #[_, _]) hb) (by simp [Value.oneCell']) (by unfold maxLen; omega) (by omega) hbase
  have h3 : XOwn t base w' v' (cs ++ [e]) := by unfold XOwn; rw [celX_app, List.length_append]; exact r1
  obtain ⟨a', c', he⟩ := h3.form
  rw [List.length_append] at he
  have he : v' = .slice a' (cs.length + 1) c' := he
  subst he
  exact ⟨a', c', w', hrun, h3, r2⟩
theorem wp_append_x {T t : TypeId} {i0 : TypeInfo} {z : Value} (ht : Try.prog.underlying T = some (.slice t)) (hi : Try.prog.info? t = some i0) (hz : i0.zero = some z) (h1 : i0.size = 2) (h2 : i0.bytes = 16) (hzs : z.cells.size = 2)
    (w : World) {o : Oper} {a : Act} {K : Act → World → Prop} {Q : Exit → Act → World → Prop} (s x : Operand)
    (ho : o.op = .call { callee := .builtin .append, args := #[s, x], argTypes := #[T, T] })
    (base : Nat) (v : Value) (cs : List Xt) (hs : a.eval s = v) (hown : XOwn t base w v cs) (b : Nat) (e : Xt) (hx : a.eval x = .slice (some ⟨b, 0, none⟩) 1 1) (hb : w.heap[b]? = some (.cells #[.int .i64 e.1, .int .i64 e.2] t (0, 0))) (hl : cs.length ≤ 100000) (hbase : base ≤ w.heap.size)
    (h : ∀ a' c' w', XOwn t base w' (.slice a' (cs.length + 1) c') (cs ++ [e]) → w.grownBy w' v.ownBlock → K (a.put o.dst (.slice a' (cs.length + 1) c')) w') : o.wp Try.prog a w K Q := by
  obtain ⟨a', c', w', hrun, r2, r3⟩ := run_append_x ht hi hz h1 h2 hzs w base o.type v cs hown b e hb hl hbase
  unfold Oper.wp execOp
  simp only [ho, resolve, invoke, builtin, Sem.run_bind, Sem.run_pure, Result.andThen_ok, List.map_toArray, List.map_cons, List.map_nil, hs, hx, hrun]
  exact h a' c' w' r2 r3
theorem wpList_append_x {T t : TypeId} {i0 : TypeInfo} {z : Value} (ht : Try.prog.underlying T = some (.slice t)) (hi : Try.prog.info? t = some i0) (hz : i0.zero = some z) (h1 : i0.size = 2) (h2 : i0.bytes = 16) (hzs : z.cells.size = 2)
    (w : World) {ops : Array Oper} {rest : List Oper} {o : Oper} {a : Act} {Q : Exit → Act → World → Prop} (hgd : o.guard = none) (s x : Operand)
    (ho : o.op = .call { callee := .builtin .append, args := #[s, x], argTypes := #[T, T] })
    (base : Nat) (v : Value) (cs : List Xt) (hs : a.eval s = v) (hown : XOwn t base w v cs) (b : Nat) (e : Xt) (hx : a.eval x = .slice (some ⟨b, 0, none⟩) 1 1) (hb : w.heap[b]? = some (.cells #[.int .i64 e.1, .int .i64 e.2] t (0, 0))) (hl : cs.length ≤ 100000) (hbase : base ≤ w.heap.size)
    (h : ∀ a' c' w', XOwn t base w' (.slice a' (cs.length + 1) c') (cs ++ [e]) → w.grownBy w' v.ownBlock → wpList Try.prog ops Q rest (a.put o.dst (.slice a' (cs.length + 1) c')) w') : wpList Try.prog ops Q (o :: rest) a w :=
  wpList_plain hgd fun K hK => wp_append_x ht hi hz h1 h2 hzs w s x ho base v cs hs hown b e hx hb hl hbase fun a' c' w' r2 r3 => hK _ _ (h a' c' w' r2 r3)
theorem step_append_x {T t : TypeId} {i0 : TypeInfo} {z : Value} (ht : Try.prog.underlying T = some (.slice t)) (hi : Try.prog.info? t = some i0) (hz : i0.zero = some z) (h1 : i0.size = 2) (h2 : i0.bytes = 16) (hzs : z.cells.size = 2)
    (w : World) {ops : Array Oper} {o : Oper} {a : Act} {K : Act → World → Prop} {Q : Exit → Act → World → Prop} {E : Prop} (hgd : o.guard = none) (s x : Operand)
    (ho : o.op = .call { callee := .builtin .append, args := #[s, x], argTypes := #[T, T] })
    (base : Nat) (v : Value) (cs : List Xt) (hs : a.eval s = v) (hown : XOwn t base w v cs) (b : Nat) (e : Xt) (hx : a.eval x = .slice (some ⟨b, 0, none⟩) 1 1) (hb : w.heap[b]? = some (.cells #[.int .i64 e.1, .int .i64 e.2] t (0, 0))) (hl : cs.length ≤ 100000) (hbase : base ≤ w.heap.size)
    (h : ∀ a' c' w', XOwn t base w' (.slice a' (cs.length + 1) c') (cs ++ [e]) → w.grownBy w' v.ownBlock → K (a.put o.dst (.slice a' (cs.length + 1) c')) w') :
    if Region.wanted o (yielded ops a.tmps) = true then Oper.wp Try.prog o a w K Q else E := by
  have hw : Region.wanted o (yielded ops a.tmps) = true := by simp [Region.wanted, hgd]
  rw [if_pos hw]
  exact wp_append_x ht hi hz h1 h2 hzs w s x ho base v cs hs hown b e hx hb hl hbase h
theorem info_xt : (Try.prog.info? 74).map (fun i => (i.zero, i.size, i.bytes)) = some (some (.agg #[.int .i64 0, .int .i64 0]), 2, 16) := by kernel_rfl
theorem info_rxt : (Try.prog.info? 73).map (fun i => (i.zero, i.size, i.bytes)) = some (some (.agg #[.int .i64 0, .int .i64 0]), 2, 16) := by kernel_rfl
/-- An inode as a value. -/
abbrev iv28 (m s : Int) (u : Value) : Value := .agg #[.int .i64 m, .int .i64 s, u]
theorem cells3 {w : World} {b : Nat} {x y z : Value} {t : TypeId} (h : w.heap[b]? = some (.cells #[x, y, z] t (0, 0))) : w.cell? ⟨b, 0, none⟩ = some x ∧ w.cell? ⟨b, 1, none⟩ = some y ∧ w.cell? ⟨b, 2, none⟩ = some z :=
  ⟨cell_of_row _ _ 0 _ _ _ h, cell_of_row _ _ 1 _ _ _ h, cell_of_row _ _ 2 _ _ _ h⟩
theorem xeq_of {l m : List Xt} (hl : l.length = m.length) (h : ∀ j, j < l.length → xth l j = xth m j) : l = m := by
  refine List.ext_getElem hl fun j h1 h2 => ?_
  have := h j h1
  rwa [xth_eq h1, xth_eq h2] at this
set_option maxRecDepth 100000 in
/-- slices.Equal of extents. -/
theorem EqX_any (v u : Value) (l m : List Xt) (F G : Nat → Prop) (w : World) (hv : XSl w F v l) (hu : XSl w G u m) :
    Calls Try.prog 79 #[v, u] w (BoolE (decide (l = m)) w) := by
  obtain ⟨a, ca, rfl, hca, hcm, _⟩ := id hv
  obtain ⟨b, cb, rfl, hcb, hbm, _⟩ := id hu
  have HV := Lib.hid hv
  have HU := Lib.hid hu
  unfold maxLen at hcm hbm
  clear hv hu
  by_cases hl : l.length = m.length
  · have HL := Lib.hid hl
    obtain ⟨n, hn⟩ : ∃ n, n = m.length := ⟨_, rfl⟩
    have hln : l.length = n := by omega
    have HN := Lib.hid hn
    have HLN := Lib.hid hln
    rw [← hn] at hcb ⊢
    rw [hln] at hca ⊢
    rw [← hn] at HU
    rw [hln] at HV
    clear hl hn hln
    go_enter Try.func79, Try.ntmps79
    go_wp2
    go_loopw [13] (fun i wr => ∃ k d : Nat, i = .int .i64 k ∧ k ≤ n ∧ (∀ j, j < k → xth l j = xth m j) ∧ wr = w.drewN d) (fun i _ => n - (intOf i).toNat)
    case atStart => exact ⟨0, 0, rfl, Nat.zero_le _, fun j h => absurd h (by omega), rfl⟩
    case round =>
      obtain ⟨k, d, rfl, hk, hno, rfl⟩ := hrel
      have HNO := Lib.hid hno
      clear hno
      by_cases hlt : k < n
      · obtain ⟨b1, o1, rfl, _, _, hc1, hc1'⟩ := HV.out.at_ (j := k) (by have := HLN.out; omega)
        obtain ⟨b2, o2, rfl, _, _, hc2, hc2'⟩ := HU.out.at_ (j := k) (by have := HN.out; omega)
        obtain ⟨x, hx⟩ : ∃ x, x = xth l k := ⟨_, rfl⟩
        obtain ⟨y, hy⟩ : ∃ y, y = xth m k := ⟨_, rfl⟩
        rw [← hx] at hc1 hc1'
        rw [← hy] at hc2 hc2'
        have HX := Lib.hid hx
        have HY := Lib.hid hy
        have hk0 : (0 : Int) ≤ (k : Int) := by omega
        have hk1 : (k : Int) < (n : Int) := by omega
        obtain ⟨x1, x2⟩ := x
        obtain ⟨y1, y2⟩ := y
        clear hx hy
        by_cases he : x1 = y1 ∧ x2 = y2
        · have HE := Lib.hid he
          have e1 : (x1 != y1) = false := by rw [he.1]; simp
          have e2 : (x2 != y2) = false := by rw [he.2]; simp
          have e3 : (x1 == y1) = true := by rw [he.1]; simp
          have e4 : (x2 == y2) = true := by rw [he.2]; simp
          clear he
          go_wp2
          go_quiet (fail)
          go_wp2
          refine ⟨⟨k + 1, _, by go_num, by omega, fun j hj => ?_, rfl⟩, by simp [intOf]; omega⟩
          by_cases hjk : j = k
          · subst hjk; rw [← HX.out, ← HY.out, HE.out.1, HE.out.2]
          · exact HNO.out j (by omega)
        · have HE : Hid (decide (l = m) = false) := Lib.hid (decide_eq_false (fun h => he (by
            have : xth l k = xth m k := by rw [h]
            rw [← HX.out, ← HY.out] at this
            injection this with h1 h2
            exact ⟨h1, h2⟩)))
          by_cases e : x1 = y1
          · have e5 : ¬ x2 = y2 := fun h => he ⟨e, h⟩
            have e1 : (x1 != y1) = false := by rw [e]; simp
            have e2 : (x2 != y2) = true := by simp [e5]
            have e3 : (x1 == y1) = true := by rw [e]; simp
            have e4 : (x2 == y2) = false := by simp [e5]
            clear he e e5
            go_wp2
            go_quiet (fail)
            go_wp2
            go_ret
            exact ⟨(by rw [HE.out] <;> rfl), ((Kept.refl _ _).drewN _).drewN _⟩
          · have e1 : (x1 != y1) = true := by simp [e]
            have e3 : (x1 == y1) = false := by simp [e]
            clear he e
            go_wp2
            go_quiet (fail)
            go_wp2
            go_ret
            exact ⟨(by rw [HE.out] <;> rfl), ((Kept.refl _ _).drewN _).drewN _⟩
      · obtain rfl : k = n := by omega
        have HE : Hid (decide (l = m) = true) := Lib.hid (decide_eq_true (xeq_of HL.out (fun j hj => HNO.out j (by have := HLN.out; omega))))
        go_wp2
        go_ret
        exact ⟨(by rw [HE.out] <;> rfl), (Kept.refl _ _).drewN _⟩
  · have HE : Hid (decide (l = m) = false) := Lib.hid (decide_eq_false (fun h => hl (by rw [h])))
    have hne : ((l.length : Int) != (m.length : Int)) = true := by simp; omega
    clear hl
    go_enter Try.func79, Try.ntmps79
    go_wp2
    go_ret
    exact ⟨(by rw [HE.out] <;> rfl), Kept.refl _ _⟩
end Go.Proofs.Ytiifkcjngajegaa
namespace Go.Proofs.Ytiifkcjngajegaa
open Go.RowKit
set_option linter.unusedVariables false

theorem box3 {w : World} {x y z : Value} {t : TypeId} : (w.alloc (.cells #[x, y, z] t)).cell? ⟨w.heap.size, 0, none⟩ = some x ∧ (w.alloc (.cells #[x, y, z] t)).cell? ⟨w.heap.size, 1, none⟩ = some y ∧ (w.alloc (.cells #[x, y, z] t)).cell? ⟨w.heap.size, 2, none⟩ = some z :=
  cells3 (heap_alloc_new w _)
theorem box3' {w : World} {o : Obj} {x y z : Value} {t : TypeId} : ((w.alloc o).alloc (.cells #[x, y, z] t)).cell? ⟨w.heap.size + 1, 0, none⟩ = some x ∧ ((w.alloc o).alloc (.cells #[x, y, z] t)).cell? ⟨w.heap.size + 1, 1, none⟩ = some y ∧ ((w.alloc o).alloc (.cells #[x, y, z] t)).cell? ⟨w.heap.size + 1, 2, none⟩ = some z := by
  have h := cells3 (heap_alloc_new (w.alloc o) (.cells #[x, y, z] t))
  rwa [show (w.alloc o).heap.size = w.heap.size + 1 by simp] at h
theorem two28 (w : World) (m1 s1 m2 s2 : Int) (u1 u2 : Value) (t1 t2 : TypeId) : Kept NoB w ((w.alloc (.cells #[.int .i64 m1, .int .i64 s1, u1] t1)).alloc (.cells #[.int .i64 m2, .int .i64 s2, u2] t2)) := ((Kept.refl NoB w).alloc _).alloc _
set_option maxRecDepth 100000 in
theorem iSame_any (m1 s1 m2 s2 : Int) (u1 u2 : Value) (l1 l2 : List Xt) (F G : Nat → Prop) (w : World) (h1 : XSl w F u1 l1) (h2 : XSl w G u2 l2) :
    Calls Try.prog 51 #[iv28 m1 s1 u1, iv28 m2 s2 u2] w (BoolE (decide (m1 = m2 ∧ s1 = s2 ∧ l1 = l2)) w) := by
  have hK := two28 w m1 s1 m2 s2 u1 u2 26 26
  have HEQ := Lib.hid (EqX_any _ _ _ _ _ _ _ (h1.no hK) (h2.no hK))
  have HK := Lib.hid hK
  obtain ⟨c0, c1, c2⟩ := box3 (w := w) (x := .int .i64 m1) (y := .int .i64 s1) (z := u1) (t := 26)
  obtain ⟨d0, d1, d2⟩ := box3' (w := w) (o := .cells #[.int .i64 m1, .int .i64 s1, u1] 26) (x := .int .i64 m2) (y := .int .i64 s2) (z := u2) (t := 26)
  have c0 := cell_alloc c0 (.cells #[.int .i64 m2, .int .i64 s2, u2] 26)
  have c1 := cell_alloc c1 (.cells #[.int .i64 m2, .int .i64 s2, u2] 26)
  have c2 := cell_alloc c2 (.cells #[.int .i64 m2, .int .i64 s2, u2] 26)
  clear hK h1 h2
  by_cases hm : m1 = m2
  · by_cases hs : s1 = s2
    · have HE : Hid (decide (m1 = m2 ∧ s1 = s2 ∧ l1 = l2) = decide (l1 = l2)) := Lib.hid (by simp [hm, hs])
      have e1 : (m1 == m2) = true := by simpa using hm
      have e2 : (s1 == s2) = true := by simpa using hs
      rw [HE.out]
      clear hm hs HE
      go_enter Try.func51, Try.ntmps51
      go_wp2_with (go_at_call 79; refine HEQ.out.mono ?_; rintro e w3 ⟨rfl, hk⟩; have HK3 := Lib.hid (HK.out.trans hk (fun _ _ h => h)); clear hk)
      go_ret
      exact ⟨rfl, HK3.out⟩
    · have HE : Hid (decide (m1 = m2 ∧ s1 = s2 ∧ l1 = l2) = false) := Lib.hid (by simp [hs])
      have e1 : (m1 == m2) = true := by simpa using hm
      have e2 : (s1 == s2) = false := by simpa using hs
      rw [HE.out]
      clear hm hs HE
      go_enter Try.func51, Try.ntmps51
      go_wp2
      go_ret
      exact ⟨rfl, HK.out⟩
  · have HE : Hid (decide (m1 = m2 ∧ s1 = s2 ∧ l1 = l2) = false) := Lib.hid (by simp [hm])
    have e1 : (m1 == m2) = false := by simpa using hm
    rw [HE.out]
    clear hm HE
    go_enter Try.func51, Try.ntmps51
    go_wp2
    go_ret
    exact ⟨rfl, HK.out⟩
theorem iNeed_any (s : Int) (w : World) (h0 : -9223372036854775808 ≤ s) (h1 : s ≤ 9223372036854775807) : Calls Try.prog 87 #[.int .i64 s] w fun e w' => e = .returned (.int .i64 (need28 s)) ∧ w = w' := by
  unfold need28
  by_cases h : s ≤ 0
  · rw [if_pos h]
    go_enter Try.func87, Try.ntmps87
    go_wp2
    go_ret
    exact ⟨rfl, rfl⟩
  · rw [if_neg h]
    have h2 : 0 ≤ s - 1 := by omega
    go_enter Try.func87, Try.ntmps87
    go_wp2
    go_ret
    exact ⟨rfl, rfl⟩
theorem rNeed_any (s : Int) (w : World) (h0 : -9223372036854775808 ≤ s) (h1 : s ≤ 9223372036854775807) : Calls Try.prog 75 #[.int .i64 s] w fun e w' => e = .returned (.int .i64 (need28 s)) ∧ w = w' := by
  have HN : Hid (∀ k : Int, 0 ≤ k → k < 100 → (k - 1) * 64 < s ∨ k = 0 → ¬ k * 64 < s → k = need28 s) := Lib.hid (fun k h0 h1 h2 h3 => by unfold need28; split <;> omega)
  have HB : Hid (99 * 64 < s → (s - 1) / 64 + 1 = need28 s) := Lib.hid (fun h => by unfold need28; rw [if_neg (by omega)])
  obtain ⟨n, hn⟩ : ∃ n, n = need28 s := ⟨_, rfl⟩
  rw [← hn] at HN HB ⊢
  clear hn
  go_enter Try.func75, Try.ntmps75
  go_wp2
  go_loop [3] (fun i => ∃ k : Int, 0 ≤ k ∧ k ≤ 100 ∧ i = .int .i64 k ∧ ((k - 1) * 64 < s ∨ k = 0)) (fun i => (100 - intOf i).toNat)
  case atStart => exact ⟨0, by omega, by omega, rfl, .inr rfl⟩
  case round =>
    obtain ⟨k, hk0, hk1, rfl, hk2⟩ := hrel
    have HK2 := Lib.hid hk2
    by_cases h100 : k < 100
    · by_cases hlt : k * 64 < s
      · clear hk2
        go_wp2
        go_round
        case rel => exact ⟨k + 1, by omega, by omega, rfl, .inl (by omega)⟩
        case measure => simp [intOf]; omega
      · have HX := Lib.hid (HN.out k hk0 h100 hk2 (by omega))
        have h7 : (k == 100) = false := by rw [beq_eq_false_iff_ne]; omega
        clear hk2
        go_wp2
        go_ret
        exact ⟨by rw [HX.out] <;> rfl, rfl⟩
    · obtain rfl : k = 100 := by omega
      have hs : 99 * 64 < s := by omega
      have HX := Lib.hid (HB.out hs)
      have h2 : 0 ≤ s - 1 := by omega
      clear hk2
      go_wp2
      go_ret
      exact ⟨by rw [← HX.out] <;> rfl, rfl⟩
end Go.Proofs.Ytiifkcjngajegaa
namespace Go.Proofs.Ytiifkcjngajegaa
open Go.RowKit
set_option linter.unusedVariables false

theorem bset28 {w : World} {b : Nat} {v u : Value} {t : TypeId} (h : w.heap[b]? = some (.cells #[v] t (0, 0))) : (w.setCell ⟨b, 0, none⟩ u).heap[b]? = some (.cells #[u] t (0, 0)) := by
  rw [heap_setCell_same w b 0 _ _ _ h]; rfl
/-- The cell c holds a slice of numbers of the call's own. -/
def LAt (B : Nat) (w : World) (c : Nat) (a : Option Addr) (d : Nat) (L : List Int) : Prop := w.heap[c]? = some (.cells #[.slice a L.length d] 98 (0, 0)) ∧ IOwn B w (.slice a L.length d) L
def ColE (B c : Nat) (L : List Int) (w : World) (e : Ending) (w' : World) : Prop := e = .returned (.tuple #[]) ∧ (∃ a d, LAt B w' c a d L) ∧ Kept (fun k => B ≤ k) w w'
set_option maxRecDepth 100000 in
theorem Collect_any (B c : Nat) (a : Option Addr) (d : Nat) (L : List Int) (s : Int) (n : Nat) (w : World) (h : LAt B w c a d L) (hc : B ≤ c) (hL : L.length ≤ 10000) (hn : n ≤ 8) :
    Calls Try.prog 90 #[.agg #[.int .i64 s, .int .i64 (n : Int)], .pointer (some ⟨c, 0, none⟩)] w (ColE B c (L ++ run28 s n) w) := by
  have hcl := heap_lt h.1
  have hz := heap_alloc_new w (.cells #[.int .i64 s, .int .i64 (n : Int)] 74)
  have HZ := Lib.hid hz
  have HH0 := Lib.hid (((Kept.refl NoB w).alloc (.cells #[.int .i64 s, .int .i64 (n : Int)] 74)).heap (fun h => h) h.1)
  have HO0 := Lib.hid (row_keptI h.2 ((Kept.refl NoB w).alloc (.cells #[.int .i64 s, .int .i64 (n : Int)] 74)) (fun _ _ h => h))
  have HK0 := Lib.hid ((Kept.refl (fun k => B ≤ k) w).alloc (.cells #[.int .i64 s, .int .i64 (n : Int)] 74))
  have c1 : (w.alloc (.cells #[.int .i64 s, .int .i64 (n : Int)] 74)).cell? ⟨w.heap.size, 1, none⟩ = some (.int .i64 (n : Int)) := cell_of_row _ _ 1 _ _ _ hz
  clear h hz
  go_enter Try.func90, Try.ntmps90
  go_wp2
  clear c1
  go_loopw [6] (fun i wr => ∃ (j : Nat) (a : Option Addr) (d : Nat), j ≤ n ∧ i = .int .i64 j ∧ LAt B wr c a d (L ++ run28 s j) ∧ wr.heap[w.heap.size]? = some (.cells #[.int .i64 s, .int .i64 (n : Int)] 74 (0, 0)) ∧ Kept (fun k => B ≤ k) w wr) (fun i _ => n - (intOf i).toNat)
  case atStart => exact ⟨0, a, d, by omega, rfl, by rw [show run28 s 0 = [] from rfl, List.append_nil]; exact ⟨HH0.out, HO0.out⟩, HZ.out, HK0.out⟩
  case round =>
    obtain ⟨j, a, d, hj, rfl, ⟨hh, ho⟩, hbox, hkk⟩ := hrel
    have HBOX := Lib.hid hbox
    have HK := Lib.hid hkk
    have hsz := hkk.size
    by_cases hlt : j < n
    · obtain ⟨M, hM⟩ : ∃ M, M = L ++ run28 s j := ⟨_, rfl⟩
      rw [← hM] at hh ho
      have hml : M.length ≤ 10008 := by rw [hM, List.length_append, run28_len]; omega
      obtain ⟨y, hy⟩ : ∃ y, y = IntKind.i64.wrap (s + (j : Int)) := ⟨_, rfl⟩
      have HM : Hid (L ++ run28 s (j + 1) = M ++ [y]) := Lib.hid (by rw [run28_succ, hM, hy, List.append_assoc])
      have hy' := hy.symm
      have HH := Lib.hid hh
      have HO := Lib.hid ho
      have e0 := cell_of_row _ _ 0 _ _ _ hbox
      have l0 := cell_of_row _ _ 0 _ _ _ hh
      have f0 : wr.frozen? ⟨c, 0, none⟩ = false := by simp [World.frozen?, hh]
      have HO1 := Lib.hid (row_keptI ho ((Kept.refl NoB wr).alloc (.cells #[.int .i64 y] 3)) (fun _ _ h => h))
      have HON := Lib.hid (nsl_one (heap_alloc_new wr (.cells #[.int .i64 y] 3)))
      have hb1 : B ≤ (wr.alloc (.cells #[.int .i64 y] 3)).heap.size := by simp; omega
      have HSZ := Lib.hid hb1
      have hcw : c < wr.heap.size := by omega
      have hcb : c ≠ w.heap.size := by omega
      clear hbox hkk hM hy hh ho hb1
      go_wp2_with (at_builtin; refine wpList_append_nsl _ rfl (.tmp 9) (.tmp 14) rfl B (.slice a M.length d) M rfl HO1.out (fun _ => True) (.slice (some ⟨wr.heap.size, 0, none⟩) 1 1) [y] rfl HON.out (by simp; omega) HSZ.out ?_; intro a1 d1 w3 hown1 hg1 _; (have hk3 : Kept (fun b => (Value.slice a M.length d).ownBlock = some b) wr w3 := ((Kept.refl _ wr).alloc _).grown hg1 (fun b hb => .inl hb)); (have hne : ¬ (Value.slice a M.length d).ownBlock = some c := (fun h => own_ne HO.out HH.out (by decide) h.symm)); (have hne2 : ¬ (Value.slice a M.length d).ownBlock = some w.heap.size := (fun h => own_ne HO.out HBOX.out (by decide) h.symm)); have hh3 := hk3.heap hne HH.out; have hb3 := hk3.heap hne2 HBOX.out; have HK3 := Lib.hid (HK.out.trans hk3 (fun i _ hi => (World.ownsRow.lt HO.out i hi).1)); have HOWN1 := Lib.hid hown1; have HH3 := Lib.hid hh3; have HB3 := Lib.hid hb3; (have l0 := cell_of_row _ _ 0 _ _ _ hh3); (have f0 : w3.frozen? ⟨c, 0, none⟩ = false := (by simp [World.frozen?, hh3])); clear hown1 hg1 hk3 hh3 hb3 hne hne2)
      have hset : Kept (fun i => i = c) w3 (w3.setCell ⟨c, 0, none⟩ (.slice a1 (M.length + 1) d1)) := (Kept.refl (fun i => i = c) w3).setCell (p := ⟨c, 0, none⟩) (.inl rfl) _
      have hl1 : (M ++ [y]).length = M.length + 1 := by simp
      refine ⟨⟨j + 1, a1, d1, by omega, by go_num, ?_, ?_, ?_⟩, by simp [intOf]; omega⟩
      · rw [HM.out]
        refine ⟨?_, ?_⟩
        · rw [hl1]; exact bset28 HH3.out
        · rw [hl1]
          have h := HOWN1.out
          exact row_keptI h hset (fun b hb h' => own_ne h HH3.out (by decide) (h' ▸ hb).symm)
      · exact hset.heap (fun h => hcb h.symm) HB3.out
      · exact HK3.out.trans hset (fun i _ hi => by rw [hi]; exact hc)
    · obtain rfl : j = n := by omega
      have HHO : Hid (LAt B wr c a d (L ++ run28 s j)) := Lib.hid ⟨hh, ho⟩
      have e1 := cell_of_row _ _ 1 _ _ _ hbox
      clear hh ho hbox hkk
      go_wp2
      go_end0
      exact ⟨rfl, ⟨a, d, HHO.out⟩, HK.out⟩

theorem ent_collect : ∀ (args : Array Value) (w : World), Sem.run Try.prog (callFunc 90 args) w = .ok (.enter 90 args) w := fun args w => by kernel_rfl
set_option maxRecDepth 100000 in
theorem iBlocks_any (m s : Int) (u : Value) (l : List Xt) (F : Nat → Prop) (w : World) (h : XSl w F u l) (hl : l.length ≤ 1000) :
    Calls Try.prog 85 #[iv28 m s u] w (ListE (blk l) w) := by
  obtain ⟨a, cap, rfl, hca, hcm, _⟩ := id h
  have HX := Lib.hid h
  have hent := ent_collect
  have HKS := Lib.hid (((Kept.refl NoB w).alloc (.cells #[.int .i64 m, .int .i64 s, .slice a l.length cap] 26)).alloc (.cells #[.slice none 0 0] 98))
  have hz2 := heap_alloc_new (w.alloc (.cells #[.int .i64 m, .int .i64 s, .slice a l.length cap] 26)) (.cells #[.slice none 0 0] 98)
  rw [show (w.alloc (.cells #[.int .i64 m, .int .i64 s, .slice a l.length cap] 26)).heap.size = w.heap.size + 1 by simp] at hz2
  have HLA : Hid (LAt w.heap.size ((w.alloc (.cells #[.int .i64 m, .int .i64 s, .slice a l.length cap] 26)).alloc (.cells #[.slice none 0 0] 98)) (w.heap.size + 1) none 0 (blk (l.take 0))) := Lib.hid ⟨hz2, IOwn.nil _ _⟩
  obtain ⟨_, _, c2⟩ := box3 (w := w) (x := .int .i64 m) (y := .int .i64 s) (z := .slice a l.length cap) (t := 26)
  have c2 := cell_alloc c2 (.cells #[.slice none 0 0] 98)
  have hlm : l.length ≤ 9223372036854775807 := by omega
  clear h hz2
  go_enter Try.func85, Try.ntmps85
  go_wp2
  clear c2
  go_loopw [11] (fun i wr => ∃ (j : Nat) (a : Option Addr) (d : Nat), j ≤ l.length ∧ i = .int .i64 j ∧ LAt w.heap.size wr (w.heap.size + 1) a d (blk (l.take j)) ∧ Kept NoB w wr) (fun i _ => l.length - (intOf i).toNat)
  case atStart => exact ⟨0, none, 0, by omega, rfl, HLA.out, HKS.out⟩
  case round =>
    obtain ⟨j, ra, rd, hj, rfl, hla, hkk⟩ := hrel
    have HK := Lib.hid hkk
    have HL := Lib.hid hla
    have hbl := blk_take_len l j
    obtain ⟨M, hM⟩ : ∃ M, M = blk (l.take j) := ⟨_, rfl⟩
    rw [← hM] at HL hbl
    have HM := Lib.hid hM
    have hcl := heap_lt hla.1
    clear hla hkk hM
    by_cases hlt : j < l.length
    · obtain ⟨b, o, rfl, _, hb, e0, e1⟩ := (HX.out.no HK.out).at_ hlt
      obtain ⟨x, hx⟩ : ∃ x, x = xth l j := ⟨_, rfl⟩
      rw [← hx] at e0 e1
      have HS : Hid (blk (l.take (j + 1)) = M ++ eblk x) := Lib.hid (by rw [xtake_snoc hlt, blk_snoc, ← HM.out, hx])
      obtain ⟨xs, xn⟩ := x
      simp only at e0 e1
      have hj0 : (0 : Int) ≤ (j : Int) := by omega
      have hj1 : (j : Int) < (l.length : Int) := by omega
      have HKA := Lib.hid (HK.out.alloc (.cells #[.int .i64 xs, .int .i64 xn] 74))
      have HLA2 : Hid (LAt w.heap.size (wr.alloc (.cells #[.int .i64 xs, .int .i64 xn] 74)) (w.heap.size + 1) ra rd M) := Lib.hid ⟨((Kept.refl NoB wr).alloc _).heap (fun h => h) HL.out.1, row_keptI HL.out.2 ((Kept.refl NoB wr).alloc _) (fun _ _ h => h)⟩
      clear hx
      by_cases hv : 1 ≤ xn ∧ xn ≤ 8
      · obtain ⟨k, rfl⟩ := Int.eq_ofNat_of_zero_le (show 0 ≤ xn by omega)
        have HS2 : Hid (blk (l.take (j + 1)) = M ++ run28 xs k) := Lib.hid (by rw [HS.out]; unfold eblk; rw [if_pos hv, Int.toNat_natCast])
        have HC := Lib.hid (Collect_any w.heap.size (w.heap.size + 1) ra rd M xs k _ HLA2.out (by omega) (by omega) (by omega))
        have d1 : decide ((1 : Int) ≤ (k : Int)) = true := decide_eq_true hv.1
        have d2 : decide ((k : Int) ≤ 8) = true := decide_eq_true hv.2
        have d3 : decide (1 ≤ k) = true := decide_eq_true (by omega)
        have d4 : decide (k ≤ 8) = true := decide_eq_true (by omega)
        clear hv
        go_wp2_with fail
        refine HC.out.mono ?_
        rintro e w2 ⟨rfl, ⟨a2, d2', hl2⟩, hk2⟩
        have HL2 := Lib.hid hl2
        have HK2 := Lib.hid (HKA.out.trans hk2 (fun i hi hi2 => absurd hi (by omega)))
        clear hl2 hk2
        go_wp2
        go_roundw
        case rel => exact ⟨j + 1, a2, d2', by omega, by go_num, by rw [HS2.out]; exact HL2.out, HK2.out⟩
        case measure => simp [intOf]; omega
      · have HS2 : Hid (blk (l.take (j + 1)) = M) := Lib.hid (by rw [HS.out]; unfold eblk; rw [if_neg hv, List.append_nil])
        by_cases h1 : 1 ≤ xn
        · have d1 : decide ((1 : Int) ≤ xn) = true := decide_eq_true h1
          have d2 : decide (xn ≤ 8) = false := decide_eq_false (by omega)
          clear hv
          go_wp2
          go_roundw
          case rel => exact ⟨j + 1, ra, rd, by omega, by go_num, by rw [HS2.out]; exact HLA2.out, HKA.out⟩
          case measure => simp [intOf]; omega
        · have d1 : decide ((1 : Int) ≤ xn) = false := decide_eq_false h1
          clear hv h1
          go_wp2
          go_roundw
          case rel => exact ⟨j + 1, ra, rd, by omega, by go_num, by rw [HS2.out]; exact HLA2.out, HKA.out⟩
          case measure => simp [intOf]; omega
    · obtain rfl : j = l.length := by omega
      have HE := Lib.hid (ListE.mk HL.out.2 HK.out)
      have l0 := cell_of_row _ _ 0 _ _ _ HL.out.1
      rw [HM.out, List.take_length] at HE l0
      go_wp2
      go_ret
      exact HE.out
end Go.Proofs.Ytiifkcjngajegaa
namespace Go.Proofs.Ytiifkcjngajegaa
open Go.RowKit
set_option linter.unusedVariables false

/-- How many blocks an extent has. -/
def cnt28 (n : Int) : Nat := if 1 ≤ n ∧ n ≤ 8 then n.toNat else 0
theorem cnt28_lt {n : Int} {k : Nat} (h : k < cnt28 n) : (k : Int) < n ∧ n ≤ 8 := by
  unfold cnt28 at h; split at h <;> omega
theorem cnt28_end {n : Int} : ¬ ((cnt28 n : Nat) : Int) < n ∨ 8 < n := by
  unfold cnt28; split <;> omega
theorem eblk_cnt (e : Xt) : eblk e = run28 e.1 (cnt28 e.2) := by
  unfold eblk cnt28
  split <;> rfl
theorem cnt28_le (n : Int) : cnt28 n ≤ 8 := by unfold cnt28; split <;> omega
set_option maxRecDepth 100000 in
theorem rBlocks_any (m s : Int) (u : Value) (l : List Xt) (F : Nat → Prop) (w : World) (h : XSl w F u l) (hl : l.length ≤ 1000) :
    Calls Try.prog 73 #[iv28 m s u] w (ListE (blk l) w) := by
  obtain ⟨a, cap, rfl, hca, hcm, _⟩ := id h
  have hk0 := (Kept.refl NoB w).alloc (.cells #[.int .i64 m, .int .i64 s, .slice a l.length cap] 32)
  have HX := Lib.hid (h.no hk0)
  have HK0 := Lib.hid hk0
  have HC2 : Hid (∀ W, Kept NoB (w.alloc (.cells #[.int .i64 m, .int .i64 s, .slice a l.length cap] 32)) W → W.cell? ⟨w.heap.size, 2, none⟩ = some (.slice a l.length cap)) := Lib.hid (fun W hk => hk.cell (p := ⟨w.heap.size, 2, none⟩) (fun h => h) (box3 (w := w) (x := .int .i64 m) (y := .int .i64 s) (z := .slice a l.length cap) (t := 32)).2.2)
  have hlm : l.length ≤ 9223372036854775807 := by omega
  clear h hk0
  go_enter Try.func73, Try.ntmps73
  go_wp2
  have hw0 : w.heap.size ≤ (w.alloc (.cells #[.int .i64 m, .int .i64 s, .slice a l.length cap] 32)).heap.size := by simp
  obtain ⟨w0, hw⟩ : ∃ w0, w0 = w.alloc (.cells #[.int .i64 m, .int .i64 s, .slice a l.length cap] 32) := ⟨_, rfl⟩
  rw [← hw] at HX HK0 HC2 hw0 ⊢
  clear hw
  go_loopw [3, 4] (fun u i wr => ∃ j : Nat, j ≤ l.length ∧ i = .int .i64 j ∧ IOwn w0.heap.size wr u (blk (l.take j)) ∧ Kept NoB w0 wr) (fun _ i _ => l.length - (intOf i).toNat)
  case atStart => exact ⟨0, by omega, rfl, IOwn.nil _ _, Kept.refl _ _⟩
  case round =>
    obtain ⟨j, hj, rfl, hown, hkk⟩ := hrel
    have HK := Lib.hid hkk
    have HO := Lib.hid hown
    have hbl := blk_take_len l j
    have hsz := hkk.size
    obtain ⟨M, hM⟩ : ∃ M, M = blk (l.take j) := ⟨_, rfl⟩
    rw [← hM] at HO hbl
    have HM := Lib.hid hM
    have c2 := HC2.out wr hkk
    obtain ⟨wa, hwa⟩ : ∃ wa, wa = wr := ⟨_, rfl⟩
    rw [← hwa] at HK HO hsz c2 ⊢
    clear hown hkk hM hwa wr
    by_cases hlt : j < l.length
    · obtain ⟨b, o, rfl, _, hb, e0, e1⟩ := HX.out.at_ hlt
      obtain ⟨x, hx⟩ : ∃ x, x = xth l j := ⟨_, rfl⟩
      rw [← hx] at e0 e1
      have HS : Hid (blk (l.take (j + 1)) = M ++ run28 x.1 (cnt28 x.2)) := Lib.hid (by rw [xtake_snoc hlt, blk_snoc, ← HM.out, hx, eblk_cnt])
      obtain ⟨xs, xn⟩ := x
      simp only at e0 e1 HS
      have E0 := Lib.hid (fun W (hk : Kept NoB w0 W) => hk.cell (p := ⟨b, o + j * 2, none⟩) (fun h => h) e0)
      have E1 := Lib.hid (fun W (hk : Kept NoB w0 W) => hk.cell (p := ⟨b, o + j * 2 + 1, none⟩) (fun h => h) e1)
      have hj0 : (0 : Int) ≤ (j : Int) := by omega
      have hj1 : (j : Int) < (l.length : Int) := by omega
      have hcn := cnt28_le xn
      have HCE := Lib.hid (cnt28_end (n := xn))
      have HCL := Lib.hid (fun k => cnt28_lt (n := xn) (k := k))
      obtain ⟨q, hq⟩ : ∃ q, q = cnt28 xn := ⟨_, rfl⟩
      rw [← hq] at HS hcn HCE
      simp only [← hq] at HCL
      clear hx e0 e1 hq
      have e0 := E0.out wa HK.out
      have e1 := E1.out wa HK.out
      go_wp2
      clear c2 e0 e1
      go_loopw [3, 5] (fun u i wr => ∃ k : Nat, k ≤ q ∧ i = .int .i64 k ∧ IOwn w0.heap.size wr u (M ++ run28 xs k) ∧ Kept NoB w0 wr) (fun _ i _ => q - (intOf i).toNat)
      case atStart => exact ⟨0, by omega, rfl, by rw [show run28 xs 0 = [] from rfl, List.append_nil]; exact HO.out, HK.out⟩
      case round =>
        obtain ⟨k, hk, rfl, hown, hkk⟩ := hrel
        have HKI := Lib.hid hkk
        have HOI := Lib.hid hown
        have c2 := HC2.out wr hkk
        have e0 := E0.out wr hkk
        have e1 := E1.out wr hkk
        have hszi := hkk.size
        have hml : (M ++ run28 xs k).length ≤ 8 * l.length + 8 := by rw [List.length_append, run28_len]; omega
        obtain ⟨N, hN⟩ : ∃ N, N = M ++ run28 xs k := ⟨_, rfl⟩
        rw [← hN] at HOI hml
        have HN := Lib.hid hN
        clear hown hkk hN
        by_cases hkq : k < q
        · obtain ⟨h1, h2⟩ := HCL.out k hkq
          obtain ⟨y, hy⟩ : ∃ y, y = IntKind.i64.wrap (xs + (k : Int)) := ⟨_, rfl⟩
          have HM2 : Hid (M ++ run28 xs (k + 1) = N ++ [y]) := Lib.hid (by rw [run28_succ, ← List.append_assoc, ← HN.out, hy])
          have hy' := hy.symm
          have HO1 := Lib.hid (row_keptI HOI.out ((Kept.refl NoB wr).alloc (.cells #[.int .i64 y] 3)) (fun _ _ h => h))
          have HON := Lib.hid (nsl_one (heap_alloc_new wr (.cells #[.int .i64 y] 3)))
          have HSZ : Hid (w0.heap.size ≤ (wr.alloc (.cells #[.int .i64 y] 3)).heap.size) := Lib.hid (by simp; omega)
          have d1 : decide ((k : Int) < xn) = true := decide_eq_true h1
          have d2 : decide (xn ≤ 8) = true := decide_eq_true h2
          clear hy
          go_wp2_with (at_builtin; refine wpList_append_nsl _ rfl (.tmp 32) (.tmp 41) rfl w0.heap.size u3 N rfl HO1.out (fun _ => True) (.slice (some ⟨wr.heap.size, 0, none⟩) 1 1) [y] rfl HON.out (by simp; omega) HSZ.out ?_; intro a1 d1' w3 hown1 hg1 _; have HP := Lib.hid hown1; have HK3 := Lib.hid ((HKI.out.alloc (.cells #[.int .i64 y] 3)).grown hg1 (fun b hb => .inr (World.ownsRow.lt HO1.out b hb).1)); clear hown1 hg1)
          go_roundw
          case rel => exact ⟨k + 1, by omega, by go_num, by rw [HM2.out]; exact HP.out, HK3.out⟩
          case measure => simp [intOf]; omega
        · obtain rfl : k = q := by omega
          have HX2 : Hid (IOwn w0.heap.size wr u3 (blk (l.take (j + 1)))) := Lib.hid (by rw [HS.out, ← HN.out]; exact HOI.out)
          have HKA := HKI
          by_cases h1 : (k : Int) < xn
          · have d1 : decide ((k : Int) < xn) = true := decide_eq_true h1
            have d2 : decide (xn ≤ 8) = false := decide_eq_false (by have := HCE.out; omega)
            go_wp2
            go_roundw
            case rel => exact ⟨j + 1, by omega, by go_num, HX2.out, HKA.out⟩
            case measure => simp [intOf]; omega
          · have d1 : decide ((k : Int) < xn) = false := decide_eq_false h1
            clear h1
            go_wp2
            go_roundw
            case rel => exact ⟨j + 1, by omega, by go_num, HX2.out, HKA.out⟩
            case measure => simp [intOf]; omega
    · obtain rfl : j = l.length := by omega
      have HE : Hid (ListE (blk l) w (.returned u3) wa) := Lib.hid (by
        have := ListE.mk (HO.out.low hw0) (HK0.out.trans HK.out (fun _ _ h => h))
        rwa [HM.out, List.take_length] at this)
      go_wp2
      go_ret
      exact HE.out

end Go.Proofs.Ytiifkcjngajegaa
namespace Go.Proofs.Ytiifkcjngajegaa
open Go.RowKit
set_option linter.unusedVariables false

theorem exts_lens (bs : List Int) : ∀ e ∈ exts bs, 1 ≤ e.2 ∧ e.2 ≤ 8 := by
  have key : ∀ (bs : List Int) (l : List Xt), (∀ e ∈ l, 1 ≤ e.2 ∧ e.2 ≤ 8) → ∀ e ∈ bs.foldl addB l, 1 ≤ e.2 ∧ e.2 ≤ 8 := by
    intro bs
    induction bs with
    | nil => intro l h; exact h
    | cons b r ih =>
      intro l h
      rw [List.foldl_cons]
      refine ih _ (fun e he => ?_)
      cases hf : fits28 l b with
      | false =>
        rw [addB_new hf] at he
        rcases List.mem_append.1 he with he | he
        · exact h e he
        · rw [List.mem_singleton.1 he]; exact ⟨by simp, by simp⟩
      | true =>
        have hli : l ≠ [] := by intro h; rw [h] at hf; cases hf
        obtain ⟨m, ⟨s, n⟩, rfl⟩ := snoc28 hli
        rw [fits_snoc] at hf
        simp only [Bool.and_eq_true, decide_eq_true_eq] at hf
        rw [addB_last m s n b hf.1 hf.2] at he
        rcases List.mem_append.1 he with he | he
        · exact h e (by simp [he])
        · rw [List.mem_singleton.1 he]
          have := h (s, n) (by simp)
          exact ⟨by simp; simp at this; omega, by simp; omega⟩
  exact key bs [] (fun e he => by cases he)
theorem celX_set (m : List Xt) (s n k : Int) : (celX (m ++ [(s, n)])).set (m.length * 2 + 1) (.int .i64 k) = celX (m ++ [(s, k)]) := by
  have h : ∀ x, celX (m ++ [(s, x)]) = celX m ++ [.int .i64 s, .int .i64 x] := fun x => by rw [celX_app]; rfl
  have hl := celX_len m
  rw [h, h, List.set_append_right _ _ (by omega), show m.length * 2 + 1 - (celX m).length = 1 by omega]
  rfl
/-- The last extent turned in its place. -/
theorem XOwn.turn {t : TypeId} {B : Nat} {w : World} {r c : Nat} {m : List Xt} {s n : Int} (h : XOwn t B w (.slice (some ⟨r, 0, none⟩) (m.length + 1) c) (m ++ [(s, n)])) (k : Int) :
    XOwn t B (w.setCell ⟨r, m.length * 2 + 1, none⟩ (.int .i64 k)) (.slice (some ⟨r, 0, none⟩) (m.length + 1) c) (m ++ [(s, k)]) := by
  have hl : ∀ x : Xt, (m ++ [x]).length = m.length + 1 := fun x => by simp
  unfold XOwn at h ⊢
  rw [hl] at h ⊢
  have := (World.ownsRow.stored h (m.length * 2 + 1) (.int .i64 k)).1
  rwa [celX_set] at this
theorem xth_last (m : List Xt) (e : Xt) : xth (m ++ [e]) m.length = e := by rw [xth_eq (by simp)]; simp
/-- What extents tell. -/
def XE (t : TypeId) (L : List Xt) (w : World) (e : Ending) (w' : World) : Prop := ∃ a c, e = .returned (.slice a L.length c) ∧ XOwn t w.heap.size w' (.slice a L.length c) L ∧ Kept NoB w w'
theorem XE.mk {t : TypeId} {w w' : World} {v : Value} {L : List Xt} (h : XOwn t w.heap.size w' v L) (hk : Kept NoB w w') : XE t L w (.returned v) w' := by
  obtain ⟨a, c, rfl⟩ := h.form
  exact ⟨a, c, rfl, h, hk⟩
set_option maxRecDepth 100000 in
theorem extents_any (v : Value) (bs : List Int) (F : Nat → Prop) (w : World) (h : NSl w F v bs) (hl : bs.length ≤ 10000) :
    Calls Try.prog 80 #[v] w (XE 74 (exts bs) w) := by
  obtain ⟨i0, hi0, hz0, hz1, hz2⟩ := info_parts info_xt
  obtain ⟨a, cap, rfl, hca, hcm, _⟩ := id h
  have HN := Lib.hid h
  have hlm : bs.length ≤ 9223372036854775807 := by omega
  clear h
  go_enter Try.func80, Try.ntmps80
  go_wp2
  go_loopw [3, 9] (fun u i wr => ∃ (j : Nat) (a : Option Addr) (c : Nat), j ≤ bs.length ∧ i = .int .i64 j ∧ u = .slice a (exts (bs.take j)).length c ∧ XOwn 74 w.heap.size wr (.slice a (exts (bs.take j)).length c) (exts (bs.take j)) ∧ Kept NoB w wr) (fun _ i _ => bs.length - (intOf i).toNat)
  case atStart => exact ⟨0, none, 0, by omega, rfl, rfl, XOwn.nil _ _ _, Kept.refl _ _⟩
  case round =>
    obtain ⟨j, ra, rc, hj, rfl, rfl, hown, hkk⟩ := hrel
    have HK := Lib.hid hkk
    have hel := Nat.le_trans (exts_len (bs.take j)) (List.length_take_le' j bs)
    have HLN := Lib.hid (exts_lens (bs.take j))
    obtain ⟨L, hL⟩ : ∃ L, L = exts (bs.take j) := ⟨_, rfl⟩
    rw [← hL] at hown hel HLN ⊢
    have HLE := Lib.hid hL
    have HO := Lib.hid hown
    have hsz := hkk.size
    clear hown hkk hL
    by_cases hlt : j < bs.length
    · obtain ⟨b, o, rfl, _, hb, hcell⟩ := (HN.out.kept HK.out (fun _ _ _ h => h)).at_ hlt
      obtain ⟨x, hx⟩ : ∃ x, x = bs.getD j 0 := ⟨_, rfl⟩
      rw [← hx] at hcell
      have HS : Hid (exts (bs.take (j + 1)) = addB L x) := Lib.hid (by rw [take_snoc hlt, exts_snoc, ← HLE.out, hx])
      have hj0 : (0 : Int) ≤ (j : Int) := by omega
      have hj1 : (j : Int) < (bs.length : Int) := by omega
      clear hx
      by_cases hli : L = []
      · subst hli
        have HS2 : Hid (exts (bs.take (j + 1)) = [] ++ [(x, 1)]) := Lib.hid (by rw [HS.out, addB_new rfl])
        have HO1 := Lib.hid (HO.out.no ((Kept.refl NoB wr).alloc (.cells #[.int .i64 x, .int .i64 1] 74)))
        have HB1 := Lib.hid (heap_alloc_new wr (.cells #[.int .i64 x, .int .i64 1] 74))
        have HSZ : Hid (w.heap.size ≤ (wr.alloc (.cells #[.int .i64 x, .int .i64 1] 74)).heap.size) := Lib.hid (by simp; omega)
        go_wp2
        go_quiet (fail)
        go_wp2_with (at_builtin; refine wpList_append_x Try.underlying24 hi0 hz0 hz1 hz2 rfl _ rfl (.tmp 49) (.tmp 52) rfl w.heap.size (.slice ra 0 rc) [] rfl (HO1.out.drewN _) wr.heap.size (x, 1) rfl HB1.out (by simp) HSZ.out ?_; intro a1 d1 w3 hown1 hg1; have HP := Lib.hid hown1; have HK3 := Lib.hid (((HK.out.drewN _).alloc _).grown hg1 (fun b hb => .inr (World.ownsRow.lt HO.out b hb).1)); clear hown1 hg1)
        go_roundw
        case rel => exact ⟨j + 1, a1, d1, by omega, by go_num, (by rw [HS2.out] <;> rfl), (by rw [HS2.out]; exact HP.out), HK3.out⟩
        case measure => simp [intOf]; omega
      · obtain ⟨m, ⟨s, n⟩, rfl⟩ := snoc28 hli
        obtain ⟨p, hp⟩ : ∃ p, p = m.length := ⟨_, rfl⟩
        have hq : (m ++ [(s, n)]).length = p + 1 := by rw [hp]; simp
        obtain ⟨q, hqq⟩ : ∃ q, q = p + 1 := ⟨_, rfl⟩
        rw [hq] at HO hel ⊢
        rw [← hqq] at HO hel ⊢
        obtain ⟨hn1, hn8⟩ := HLN.out (s, n) (by simp)
        simp only at hn1 hn8
        have hox := HO.out
        rw [hqq, hp] at hox
        have hrow : wr.ownsRow w.heap.size 74 2 (.slice ra (m.length + 1) rc) (m.length + 1) (celX (m ++ [(s, n)])) := by have := hox; unfold XOwn at this; rwa [show (m ++ [(s, n)]).length = m.length + 1 by simp] at this
        obtain ⟨r, cap', hv', hB', hlt'⟩ := World.ownsRow.form hrow (by omega)
        injection hv' with hv' _ hv''
        subst hv' hv''
        obtain ⟨r', o', hr', _, _, e0, e1⟩ := hox.sl.at_ (j := m.length) (by simp)
        injection hr' with hr'
        injection hr' with hr1 hr2
        subst hr1 hr2
        rw [xth_last, Nat.zero_add, ← hp] at e0 e1
        simp only at e0 e1
        have f1 : wr.frozen? ⟨r, p * 2 + 1, none⟩ = false := World.ownsRow.frozenAt hrow _
        have HT : Hid (∀ W : World, W.heap = wr.heap → XOwn 74 w.heap.size (W.setCell ⟨r, p * 2 + 1, none⟩ (.int .i64 (n + 1))) (.slice (some ⟨r, 0, none⟩) q rc) (m ++ [(s, n + 1)])) := Lib.hid (fun W hW => by
          have h2 : XOwn 74 w.heap.size W (.slice (some ⟨r, 0, none⟩) (m.length + 1) rc) (m ++ [(s, n)]) := by
            unfold XOwn World.ownsRow at hox ⊢
            rw [hW]; exact hox
          have := h2.turn (n + 1)
          rwa [← hp, ← hqq] at this)
        have hl2 : ∀ k : Int, (m ++ [(s, k)]).length = q := fun k => by rw [hqq, hp]; simp
        have HL2 := Lib.hid hl2
        have HF := Lib.hid (fits_snoc m s n x)
        obtain ⟨y, hy⟩ : ∃ y, y = IntKind.i64.wrap (s + n) := ⟨_, rfl⟩
        rw [← hy] at HF
        have HY := Lib.hid hy
        have hy' := hy.symm
        have hq0 : (0 : Int) ≤ (q : Int) - 1 := by omega
        have hq1 : (1 : Int) ≤ (q : Int) := by omega
        have hq2 : (q : Int) - 1 < (q : Int) := by omega
        have hq3 : ((q : Int) - 1).toNat = p := by omega
        have hq4 : IntKind.i64.wrap ((q : Int) - 1) = (q : Int) - 1 := IntWalk.i64_in _ (by omega)
        have HQ : Hid ((m ++ [(s, n)]).length = q) := Lib.hid (hl2 n)
        have HK2 : Hid (∀ d u, Kept NoB w ((wr.drewN d).setCell ⟨r, p * 2 + 1, none⟩ u)) := Lib.hid (fun d u => (HK.out.drewN d).setCell (p := ⟨r, p * 2 + 1, none⟩) (.inr hB') u)
        clear hox hp hq hqq hy hl2 hli hrow
        by_cases hf : n < 8 ∧ y = x
        · have HS2 : Hid (exts (bs.take (j + 1)) = m ++ [(s, n + 1)]) := Lib.hid (by rw [HS.out, addB_last m s n x hf.1 (by rw [← HY.out]; exact hf.2)])
          have d1 : decide (n < 8) = true := decide_eq_true hf.1
          have d2 : (y == x) = true := by rw [hf.2]; simp
          have hn9 : n < 8 := hf.1
          clear hf
          go_wp2
          go_quiet (fail)
          go_wp2
          go_roundw
          case rel => exact ⟨j + 1, some ⟨r, 0, none⟩, rc, by omega, by go_num, (by rw [HS2.out, HL2.out] <;> rfl), (by rw [HS2.out, HL2.out]; exact HT.out _ rfl), HK2.out _ _⟩
          case measure => simp [intOf]; omega
        · have HS2 : Hid (exts (bs.take (j + 1)) = (m ++ [(s, n)]) ++ [(x, 1)]) := Lib.hid (by
            rw [HS.out, addB_new]
            rw [HF.out]
            by_cases h1 : n < 8
            · rw [decide_eq_false (fun h => hf ⟨h1, h⟩), Bool.and_false]
            · rw [decide_eq_false h1, Bool.false_and])
          have HO1 := Lib.hid (HO.out.no ((Kept.refl NoB wr).alloc (.cells #[.int .i64 x, .int .i64 1] 74)))
          have HB1 := Lib.hid (heap_alloc_new wr (.cells #[.int .i64 x, .int .i64 1] 74))
          have HSZ : Hid (w.heap.size ≤ (wr.alloc (.cells #[.int .i64 x, .int .i64 1] 74)).heap.size) := Lib.hid (by simp; omega)
          by_cases h1 : n < 8
          · have d1 : decide (n < 8) = true := decide_eq_true h1
            have d2 : (y == x) = false := by rw [beq_eq_false_iff_ne]; exact fun h => hf ⟨h1, h⟩
            clear hf
            go_wp2
            go_quiet (fail)
            go_wp2_with (at_builtin; refine wpList_append_x Try.underlying24 hi0 hz0 hz1 hz2 rfl _ rfl (.tmp 49) (.tmp 52) rfl w.heap.size (.slice (some ⟨r, 0, none⟩) q rc) (m ++ [(s, n)]) rfl (HO1.out.drewN _) wr.heap.size (x, 1) rfl HB1.out (by rw [HQ.out]; omega) HSZ.out ?_; intro a1 d1' w3 hown1 hg1; have HP := Lib.hid hown1; have HK3 := Lib.hid (((HK.out.drewN _).alloc _).grown hg1 (fun b hb => .inr (World.ownsRow.lt HO.out b hb).1)); clear hown1 hg1)
            go_roundw
            case rel => exact ⟨j + 1, a1, d1', by omega, by go_num, (by rw [HS2.out]; simp), (by rw [HS2.out, List.length_append]; exact HP.out), HK3.out⟩
            case measure => simp [intOf]; omega
          · have d1 : decide (n < 8) = false := decide_eq_false h1
            clear hf h1
            go_wp2
            go_quiet (fail)
            go_wp2_with (at_builtin; refine wpList_append_x Try.underlying24 hi0 hz0 hz1 hz2 rfl _ rfl (.tmp 49) (.tmp 52) rfl w.heap.size (.slice (some ⟨r, 0, none⟩) q rc) (m ++ [(s, n)]) rfl (HO1.out.drewN _) wr.heap.size (x, 1) rfl HB1.out (by rw [HQ.out]; omega) HSZ.out ?_; intro a1 d1' w3 hown1 hg1; have HP := Lib.hid hown1; have HK3 := Lib.hid (((HK.out.drewN _).alloc _).grown hg1 (fun b hb => .inr (World.ownsRow.lt HO.out b hb).1)); clear hown1 hg1)
            go_roundw
            case rel => exact ⟨j + 1, a1, d1', by omega, by go_num, (by rw [HS2.out]; simp), (by rw [HS2.out, List.length_append]; exact HP.out), HK3.out⟩
            case measure => simp [intOf]; omega
    · obtain rfl : j = bs.length := by omega
      have HE := Lib.hid (XE.mk HO.out HK.out)
      rw [HLE.out, List.take_length] at HE
      rw [HLE.out, List.take_length]
      go_wp2
      go_ret
      exact HE.out
end Go.Proofs.Ytiifkcjngajegaa
namespace Go.Proofs.Ytiifkcjngajegaa
open Go.RowKit
set_option linter.unusedVariables false

/-- The first j blocks are in range, each once. -/
def Nice (bs : List Int) (j : Nat) : Prop := ∀ i, i < j → (0 ≤ bs.getD i 0 ∧ bs.getD i 0 ≤ 4095) ∧ ¬ bs.getD i 0 ∈ bs.take i
theorem Nice.succ {bs : List Int} {j : Nat} (h : Nice bs j) (h1 : 0 ≤ bs.getD j 0 ∧ bs.getD j 0 ≤ 4095) (h2 : ¬ bs.getD j 0 ∈ bs.take j) : Nice bs (j + 1) := fun i hi => by
  by_cases e : i = j
  · rw [e]; exact ⟨h1, h2⟩
  · exact h i (by omega)
theorem getD_mem28 {T : List Int} {j : Nat} (h : j < T.length) : T.getD j 0 ∈ T := by
  rw [List.getD_eq_getElem?_getD, List.getElem?_eq_getElem h]; exact List.getElem_mem h
theorem okB_long {l : List Xt} {s : Int} (h : 8 < l.length) : okB l s = false := decide_eq_false (fun ⟨h1, _⟩ => by omega)
theorem okB_range {l : List Xt} {s : Int} {j : Nat} (hj : j < (blk l).length) (h : (blk l).getD j 0 < 0 ∨ 4095 < (blk l).getD j 0) : okB l s = false :=
  decide_eq_false (fun ⟨_, h1, _⟩ => by have := h1 _ (getD_mem28 hj); omega)
theorem okB_twice {l : List Xt} {s : Int} {j : Nat} (hj : j < (blk l).length) (h : (blk l).getD j 0 ∈ (blk l).take j) : okB l s = false :=
  decide_eq_false (fun ⟨_, _, h1, _⟩ => h1 j hj h)
theorem okB_need {l : List Xt} {s : Int} (h : ((blk l).length : Int) ≠ need28 s) : okB l s = false :=
  decide_eq_false (fun ⟨_, _, _, h1, _⟩ => h h1)
theorem okB_end {l : List Xt} {s : Int} (h8 : l.length ≤ 8) (hn : Nice (blk l) (blk l).length) (h : ((blk l).length : Int) = need28 s) : okB l s = decide (exts (blk l) = l) := by
  by_cases he : exts (blk l) = l
  · rw [decide_eq_true he]
    refine decide_eq_true ⟨h8, fun b hb => ?_, fun i hi => (hn i hi).2, h, he⟩
    obtain ⟨i, hi, rfl⟩ := List.getElem_of_mem hb
    have := (hn i hi).1
    rwa [List.getD_eq_getElem?_getD, List.getElem?_eq_getElem hi] at this
  · rw [decide_eq_false he]
    exact decide_eq_false (fun h => he h.2.2.2.2)
set_option maxRecDepth 100000 in
theorem placed_any (m s : Int) (u : Value) (l : List Xt) (F : Nat → Prop) (w : World) (h : XSl w F u l) (h0 : -9223372036854775808 ≤ s) (h1 : s ≤ 9223372036854775807) :
    Calls Try.prog 69 #[iv28 m s u] w (BoolE (okB l s) w) := by
  obtain ⟨a, cap, rfl, hca, hcm, _⟩ := id h
  have hk0 := (Kept.refl NoB w).alloc (.cells #[.int .i64 m, .int .i64 s, .slice a l.length cap] 26)
  have HK0 := Lib.hid hk0
  have hb := heap_alloc_new w (.cells #[.int .i64 m, .int .i64 s, .slice a l.length cap] 26)
  have HB := Lib.hid hb
  obtain ⟨c0, c1, c2⟩ := cells3 hb
  unfold maxLen at hcm
  by_cases h8 : 8 < l.length
  · rw [okB_long h8]
    have d1 : decide ((8 : Int) < (l.length : Int)) = true := decide_eq_true (by omega)
    have d2 : decide (8 < l.length) = true := decide_eq_true h8
    clear h h8 hk0 hb
    go_enter Try.func69, Try.ntmps69
    go_wp2
    go_ret
    exact ⟨rfl, HK0.out⟩
  · have d1 : decide ((8 : Int) < (l.length : Int)) = false := decide_eq_false (by omega)
    have d2 : decide (8 < l.length) = false := decide_eq_false h8
    have HX := Lib.hid (h.no hk0)
    have HBL := Lib.hid (iBlocks_any m s _ l _ _ (h.no hk0) (by omega))
    have hbl := blk_len l
    have HR := Lib.hid (fun (j : Nat) (hj : j < (blk l).length) h => okB_range (s := s) (l := l) hj h)
    have HT := Lib.hid (fun (j : Nat) (hj : j < (blk l).length) h => okB_twice (s := s) (l := l) hj h)
    have HND := Lib.hid (fun h => okB_need (s := s) (l := l) h)
    have HED := Lib.hid (fun hn h => okB_end (s := s) (l := l) (by omega) hn h)
    obtain ⟨t, ht⟩ : ∃ t, t = okB l s := ⟨_, rfl⟩
    rw [← ht] at HR HT HND HED ⊢
    obtain ⟨BS, hBS⟩ : ∃ BS, BS = blk l := ⟨_, rfl⟩
    rw [← hBS] at HBL hbl HR HT HND HED
    have hbl2 : BS.length ≤ 64 := by omega
    clear h hk0 hb ht hBS hbl
    go_enter Try.func69, Try.ntmps69
    go_wp2_with (go_at_call 85; refine HBL.out.mono ?_; rintro e w1 ⟨a1, e1, rfl, ho, hk⟩; have HO := Lib.hid ho.nslB; have HK1 := Lib.hid hk; clear ho hk)
    have HBX := Lib.hid (HK1.out.heap (fun h => h) HB.out)
    have HXX := Lib.hid (HX.out.no HK1.out)
    have HKW := Lib.hid (HK0.out.trans HK1.out (fun _ _ h => h))
    have hol := HO.out.len
    unfold maxLen at hol
    clear c0 c1 c2
    go_loopw [14] (fun i wr => ∃ j : Nat, j ≤ BS.length ∧ i = .int .i64 j ∧ Nice BS j ∧ wr = w1) (fun i _ => BS.length - (intOf i).toNat)
    case atStart => exact ⟨0, by omega, rfl, fun i hi => absurd hi (by omega), rfl⟩
    case round =>
      obtain ⟨j, hj, rfl, hno, rfl⟩ := hrel
      have HNO := Lib.hid hno
      clear hno
      by_cases hlt : j < BS.length
      · obtain ⟨b, o, rfl, _, _, hcell⟩ := HO.out.at_ hlt
        obtain ⟨x, hx⟩ : ∃ x, x = BS.getD j 0 := ⟨_, rfl⟩
        rw [← hx] at hcell
        have HXE := Lib.hid hx
        have hj0 : (0 : Int) ≤ (j : Int) := by omega
        have hj1 : (j : Int) < (BS.length : Int) := by omega
        have hje : (j : Int) ≤ (e1 : Int) := by omega
        clear hx
        by_cases hr : 0 ≤ x ∧ x ≤ 4095
        · have HC := Lib.hid (Contains_any _ _ x _ wr (nsl_take HO.out (k := j) (by omega)))
          have r1 : decide (x < 0) = false := decide_eq_false (by omega)
          have r2 : decide (4095 < x) = false := decide_eq_false (by omega)
          cases hm : decide (x ∈ BS.take j) with
          | true =>
            rw [hm] at HC
            have HF : Hid (false = t) := Lib.hid (HT.out j hlt (by rw [← HXE.out]; exact of_decide_eq_true hm)).symm
            clear hm hr
            go_wp2_with (go_at_call 86; refine HC.out.mono ?_; rintro e w2 ⟨rfl, rfl⟩)
            go_ret
            exact ⟨ret_b HF.out, HKW.out⟩
          | false =>
            rw [hm] at HC
            have HN2 := Lib.hid (HNO.out.succ (by rw [← HXE.out]; exact hr) (by rw [← HXE.out]; exact of_decide_eq_false hm))
            clear hm hr
            go_wp2_with (go_at_call 86; refine HC.out.mono ?_; rintro e w2 ⟨rfl, rfl⟩)
            go_roundw
            case rel => exact ⟨j + 1, by omega, by go_num, HN2.out, (by first | rfl | trivial)⟩
            case measure => simp [intOf]; omega
        · have HF : Hid (false = t) := Lib.hid (HR.out j hlt (by rw [← HXE.out]; omega)).symm
          by_cases hx0 : x < 0
          · have r1 : decide (x < 0) = true := decide_eq_true hx0
            clear hr
            go_wp2
            go_ret
            exact ⟨ret_b HF.out, HKW.out⟩
          · have r1 : decide (x < 0) = false := decide_eq_false hx0
            have r2 : decide (4095 < x) = true := decide_eq_true (by omega)
            clear hr hx0
            go_wp2
            go_ret
            exact ⟨ret_b HF.out, HKW.out⟩
      · obtain rfl : j = BS.length := by omega
        obtain ⟨c0, c1, c2⟩ := cells3 HBX.out
        have HNE := Lib.hid (fun W => iNeed_any s W h0 h1)
        by_cases hn : (BS.length : Int) = need28 s
        · have HE := Lib.hid (HED.out HNO.out hn)
          have d3 : ((BS.length : Int) == need28 s) = true := by rw [hn]; simp
          have HEX := Lib.hid (fun W (hk : Kept NoB wr W) => extents_any _ BS _ W (HO.out.kept hk (fun _ _ _ h => h)) (by omega))
          have HKc := Lib.hid (Kept.refl NoB wr)
          clear hn
          go_wp2
          go_region_held3 (fun w' => w'.cell? ⟨w.heap.size, 1, none⟩ = some (.int .i64 s) ∧ w'.cell? ⟨w.heap.size, 2, none⟩ = some (.slice a l.length cap))
            (first
              | exact ⟨cell_drew c1, cell_drew c2⟩
              | exact ⟨HKc.out.cell (p := ⟨w.heap.size, 1, none⟩) (fun h => h) c1, HKc.out.cell (p := ⟨w.heap.size, 2, none⟩) (fun h => h) c2⟩
              | go_keep)
            (first
              | (go_at_call 87; refine (HNE.out _).mono ?_; rintro e w2 ⟨rfl, rfl⟩)
              | (go_at_call 80; refine (HEX.out _ (by first | exact HKc.out | exact HKc.out.drew)).mono ?_; rintro e w3 ⟨a3, e3, rfl, ho3, hk3⟩; have HO3 := Lib.hid ho3.sl; replace HKc := Lib.hid ((by first | exact HKc.out.trans hk3 (fun _ _ h => h) | exact HKc.out.drew.trans hk3 (fun _ _ h => h))); have HX3 := Lib.hid (HXX.out.no HKc.out); clear ho3 hk3)
              | (go_at_call 79; refine (EqX_any _ _ _ _ _ _ _ HO3.out HX3.out).mono ?_; rintro e w4 ⟨rfl, hk4⟩; replace HKc := Lib.hid (HKc.out.trans hk4 (fun _ _ h => h)); clear hk4))
          all_goals
            go_wp2
            go_ret
            exact ⟨ret_b HE.out.symm, HKW.out.trans HKc.out (fun _ _ h => h)⟩
        · have HF : Hid (false = t) := Lib.hid (HND.out hn).symm
          have d3 : ((BS.length : Int) == need28 s) = false := by rw [beq_eq_false_iff_ne]; exact hn
          clear hn
          go_wp2
          go_quiet ((go_at_call 87; refine Calls.quiet_of_same ((HNE.out _).mono (by rintro e w6 ⟨rfl, rfl⟩; exact ⟨rfl, rfl⟩))))
          go_wp2
          go_ret
          exact ⟨ret_b HF.out, HKW.out.drewN _⟩
end Go.Proofs.Ytiifkcjngajegaa
namespace Go.Proofs.Ytiifkcjngajegaa
open Go.RowKit
set_option linter.unusedVariables false

def IntE (r : Int) (w : World) (e : Ending) (w' : World) : Prop := e = .returned (.int .i64 r) ∧ Kept NoB w w'
theorem ret_i {a b : Int} (h : a = b) : Ending.returned (.int .i64 a) = .returned (.int .i64 b) := by rw [h]
set_option maxRecDepth 100000 in
theorem iCheck_any (m s : Int) (u : Value) (l : List Xt) (F : Nat → Prop) (w : World) (h : XSl w F u l) (h0 : -9223372036854775808 ≤ s) (h1 : s ≤ 9223372036854775807) :
    Calls Try.prog 43 #[iv28 m s u] w (IntE (chk28 m s l) w) := by
  have hk0 := (Kept.refl NoB w).alloc (.cells #[.int .i64 m, .int .i64 s, u] 26)
  have HK0 := Lib.hid hk0
  have hb := heap_alloc_new w (.cells #[.int .i64 m, .int .i64 s, u] 26)
  obtain ⟨c0, c1, c2⟩ := cells3 hb
  have HP := Lib.hid (placed_any m s u l _ _ (h.no hk0) h0 h1)
  clear h hk0 hb
  by_cases hm : m < 0 ∨ 2 < m
  · have hr : chk28 m s l = 1 := by unfold chk28; rw [if_pos hm]
    rw [hr]
    by_cases hm0 : m < 0
    · have d1 : decide (m < 0) = true := decide_eq_true hm0
      clear hm hr
      go_enter Try.func43, Try.ntmps43
      go_wp2
      go_ret
      exact ⟨rfl, HK0.out⟩
    · have d1 : decide (m < 0) = false := decide_eq_false hm0
      have d2 : decide (2 < m) = true := decide_eq_true (by omega)
      clear hm hr hm0
      go_enter Try.func43, Try.ntmps43
      go_wp2
      go_ret
      exact ⟨rfl, HK0.out⟩
  · have d1 : decide (m < 0) = false := decide_eq_false (by omega)
    have d2 : decide (2 < m) = false := decide_eq_false (by omega)
    by_cases hs : 512 < s
    · have hr : chk28 m s l = 17 := by unfold chk28; rw [if_neg hm, if_pos hs]
      rw [hr]
      have d3 : decide (512 < s) = true := decide_eq_true hs
      clear hm hr hs
      go_enter Try.func43, Try.ntmps43
      go_wp2
      go_ret
      exact ⟨rfl, HK0.out⟩
    · have d3 : decide (512 < s) = false := decide_eq_false hs
      by_cases hs0 : s < 0
      · have hr : chk28 m s l = 4 := by unfold chk28; rw [if_neg hm, if_neg hs, if_pos (.inl hs0)]
        rw [hr]
        have d4 : decide (s < 0) = true := decide_eq_true hs0
        clear hm hr hs hs0
        go_enter Try.func43, Try.ntmps43
        go_wp2
        go_ret
        exact ⟨rfl, HK0.out⟩
      · have d4 : decide (s < 0) = false := decide_eq_false hs0
        by_cases hms : m = 0 ∧ 0 < s
        · have hr : chk28 m s l = 4 := by unfold chk28; rw [if_neg hm, if_neg hs, if_pos (.inr (.inl hms))]
          rw [hr]
          have d5 : (m == 0) = true := by rw [hms.1]; rfl
          have d6 : decide (0 < s) = true := decide_eq_true hms.2
          clear hm hr hs hs0 hms
          go_enter Try.func43, Try.ntmps43
          go_wp2
          go_ret
          exact ⟨rfl, HK0.out⟩
        · have hr : chk28 m s l = if okB l s = false then 4 else 0 := by
            unfold chk28; rw [if_neg hm, if_neg hs]
            cases hb : okB l s
            · simp
            · rw [if_neg (by simp; exact ⟨by omega, fun h => by have := hms; omega⟩)]; rfl
          rw [hr]
          by_cases hm0 : m = 0
          · have d5 : (m == 0) = true := by rw [hm0]; rfl
            have d6 : decide (0 < s) = false := decide_eq_false (fun h => hms ⟨hm0, h⟩)
            clear hm hr hs hs0 hms hm0
            cases hb : okB l s with
            | true =>
              rw [hb] at HP
              clear hb
              go_enter Try.func43, Try.ntmps43
              go_wp2_with (go_at_call 69; refine HP.out.mono ?_; rintro e w1 ⟨rfl, hk⟩; have HK1 := Lib.hid (HK0.out.trans hk (fun _ _ h => h)); clear hk)
              go_ret
              exact ⟨rfl, HK1.out⟩
            | false =>
              rw [hb] at HP
              clear hb
              go_enter Try.func43, Try.ntmps43
              go_wp2_with (go_at_call 69; refine HP.out.mono ?_; rintro e w1 ⟨rfl, hk⟩; have HK1 := Lib.hid (HK0.out.trans hk (fun _ _ h => h)); clear hk)
              go_ret
              exact ⟨rfl, HK1.out⟩
          · have d5 : (m == 0) = false := by simpa using hm0
            clear hm hr hs hs0 hms hm0
            cases hb : okB l s with
            | true =>
              rw [hb] at HP
              clear hb
              go_enter Try.func43, Try.ntmps43
              go_wp2_with (go_at_call 69; refine HP.out.mono ?_; rintro e w1 ⟨rfl, hk⟩; have HK1 := Lib.hid (HK0.out.trans hk (fun _ _ h => h)); clear hk)
              go_ret
              exact ⟨rfl, HK1.out⟩
            | false =>
              rw [hb] at HP
              clear hb
              go_enter Try.func43, Try.ntmps43
              go_wp2_with (go_at_call 69; refine HP.out.mono ?_; rintro e w1 ⟨rfl, hk⟩; have HK1 := Lib.hid (HK0.out.trans hk (fun _ _ h => h)); clear hk)
              go_ret
              exact ⟨rfl, HK1.out⟩
end Go.Proofs.Ytiifkcjngajegaa
