/-
  Inodes, plainly: blocks of extents, extents of blocks, what is valid.
-/
import Derived.Test.YtbacnkndllifaaaBase
import Derived.IntWalk
namespace Go.Proofs.Ytbacnkndllifaaa
open Go.RowKit
set_option linter.unusedVariables false

abbrev Xt := Int × Int
def xth (l : List Xt) (i : Nat) : Xt := l.getD i (0, 0)
theorem xth_eq {l : List Xt} {i : Nat} (h : i < l.length) : xth l i = l[i] := by unfold xth; rw [List.getD_eq_getElem?_getD, List.getElem?_eq_getElem h]; rfl
theorem xth_mem {l : List Xt} {i : Nat} (h : i < l.length) : xth l i ∈ l := by rw [xth_eq h]; exact List.getElem_mem h
theorem xtake_snoc {l : List Xt} {j : Nat} (h : j < l.length) : l.take (j + 1) = l.take j ++ [xth l j] := by
  rw [List.take_succ_eq_append_getElem h, xth_eq h]
/-- The first k blocks from s on. -/
def run28 (s : Int) (k : Nat) : List Int := (List.range k).map fun i : Nat => IntKind.i64.wrap (s + (i : Int))
theorem run28_succ (s : Int) (k : Nat) : run28 s (k + 1) = run28 s k ++ [IntKind.i64.wrap (s + (k : Int))] := by
  unfold run28; rw [List.range_succ, List.map_append]; rfl
theorem run28_len (s : Int) (k : Nat) : (run28 s k).length = k := by simp [run28]
/-- An extent's blocks. -/
def eblk (e : Xt) : List Int := if 1 ≤ e.2 ∧ e.2 ≤ 8 then run28 e.1 e.2.toNat else []
theorem eblk_len (e : Xt) : (eblk e).length ≤ 8 := by
  unfold eblk; split
  · rw [run28_len]; omega
  · simp
def blk (l : List Xt) : List Int := l.flatMap eblk
theorem blk_nil : blk [] = [] := rfl
theorem blk_app (l m : List Xt) : blk (l ++ m) = blk l ++ blk m := by unfold blk; rw [List.flatMap_append]
theorem blk_one (e : Xt) : blk [e] = eblk e := by unfold blk; simp
theorem blk_snoc (l : List Xt) (e : Xt) : blk (l ++ [e]) = blk l ++ eblk e := by rw [blk_app, blk_one]
theorem blk_len (l : List Xt) : (blk l).length ≤ 8 * l.length := by
  induction l with
  | nil => simp [blk]
  | cons e r ih =>
    have h1 := eblk_len e
    have : blk (e :: r) = eblk e ++ blk r := by unfold blk; rw [List.flatMap_cons]
    rw [this, List.length_append, List.length_cons]; omega
theorem blk_take_len (l : List Xt) (j : Nat) : (blk (l.take j)).length ≤ 8 * l.length := by
  have := blk_len (l.take j)
  have h2 : (l.take j).length ≤ l.length := List.length_take_le' j l
  omega
/-- One block more: onto the last extent, or a new one. -/
def fits28 (l : List Xt) (b : Int) : Bool := match l.getLast? with
  | some (s, n) => decide (n < 8) && decide (IntKind.i64.wrap (s + n) = b)
  | none => false
def addB (l : List Xt) (b : Int) : List Xt := if fits28 l b then l.dropLast ++ [((l.getLast?.getD (0, 0)).1, (l.getLast?.getD (0, 0)).2 + 1)] else l ++ [(b, 1)]
def exts (bs : List Int) : List Xt := bs.foldl addB []
theorem exts_snoc (bs : List Int) (b : Int) : exts (bs ++ [b]) = addB (exts bs) b := by unfold exts; rw [List.foldl_append]; rfl
theorem addB_new {l : List Xt} {b : Int} (h : fits28 l b = false) : addB l b = l ++ [(b, 1)] := by unfold addB; rw [h]; rfl
theorem addB_last (l : List Xt) (s n b : Int) (h1 : n < 8) (h2 : IntKind.i64.wrap (s + n) = b) : addB (l ++ [(s, n)]) b = l ++ [(s, n + 1)] := by
  unfold addB
  have : fits28 (l ++ [(s, n)]) b = true := by unfold fits28; simp [h1, h2]
  rw [this]; simp
theorem fits_snoc (l : List Xt) (s n b : Int) : fits28 (l ++ [(s, n)]) b = (decide (n < 8) && decide (IntKind.i64.wrap (s + n) = b)) := by unfold fits28; simp
theorem snoc28 {l : List Xt} (h : l ≠ []) : ∃ m e, l = m ++ [e] := ⟨l.dropLast, l.getLast h, (List.dropLast_concat_getLast h).symm⟩
theorem addB_len (l : List Xt) (b : Int) : l.length ≤ (addB l b).length ∧ (addB l b).length ≤ l.length + 1 := by
  by_cases h : l = []
  · subst h; rw [addB_new rfl]; simp
  · obtain ⟨m, ⟨s, n⟩, rfl⟩ := snoc28 h
    cases hf : fits28 (m ++ [(s, n)]) b
    · rw [addB_new hf]; simp
    · rw [fits_snoc] at hf
      simp only [Bool.and_eq_true, decide_eq_true_eq] at hf
      rw [addB_last m s n b hf.1 hf.2]; simp
theorem exts_len (bs : List Int) : (exts bs).length ≤ bs.length := by
  have key : ∀ (bs : List Int) (l : List Xt), (bs.foldl addB l).length ≤ l.length + bs.length := by
    intro bs
    induction bs with
    | nil => intro l; simp
    | cons b r ih => intro l; have := ih (addB l b); have := (addB_len l b).2; simp only [List.foldl_cons, List.length_cons]; omega
  have := key bs []
  simpa [exts] using this
def need28 (s : Int) : Int := if s ≤ 0 then 0 else (s - 1) / 64 + 1
/-- No number twice. -/
def dis28 (bs : List Int) : Prop := ∀ i, i < bs.length → ¬ bs.getD i 0 ∈ bs.take i
instance (bs : List Int) : Decidable (dis28 bs) := by unfold dis28; exact inferInstance
def pOk (l : List Xt) (s : Int) : Prop := l.length ≤ 8 ∧ (∀ b ∈ blk l, 0 ≤ b ∧ b ≤ 4095) ∧ dis28 (blk l) ∧ ((blk l).length : Int) = need28 s ∧ exts (blk l) = l
def vE (e : Xt) : Prop := 1 ≤ e.2 ∧ e.2 ≤ 8 ∧ 0 ≤ e.1 ∧ e.1 ≤ 4095 ∧ e.1 + e.2 ≤ 4096
def adjN (l : List Xt) : Prop := ∀ i, i + 1 < l.length → (xth l i).1 + (xth l i).2 ≠ (xth l (i + 1)).1
def cOk (l : List Xt) (s : Int) : Prop := (∀ e ∈ l, vE e) ∧ adjN l ∧ dis28 (blk l) ∧ ((blk l).length : Int) = need28 s
theorem wr28 {x : Int} (h0 : -9223372036854775808 ≤ x) (h1 : x ≤ 9223372036854775807) : IntKind.i64.wrap x = x := IntWalk.i64_in _ (by omega)
theorem eblk_mem {e : Xt} (h : vE e) {b : Int} : b ∈ eblk e ↔ e.1 ≤ b ∧ b < e.1 + e.2 := by
  obtain ⟨h1, h2, h3, h4, h5⟩ := h
  unfold eblk
  rw [if_pos ⟨h1, h2⟩]
  unfold run28
  simp only [List.mem_map, List.mem_range]
  constructor
  · rintro ⟨i, hi, rfl⟩
    rw [wr28 (by omega) (by omega)]; omega
  · intro hb
    refine ⟨(b - e.1).toNat, by omega, ?_⟩
    rw [wr28 (by omega) (by omega)]; omega
theorem eblk_full {e : Xt} (h : vE e) : (eblk e).length = e.2.toNat := by
  unfold eblk; rw [if_pos ⟨h.1, h.2.1⟩, run28_len]
/-- An extent's blocks behind one that does not end where it begins. -/
theorem fold_eblk {e : Xt} (h : vE e) (l : List Xt) (hn : l = [] ∨ ∃ m p, l = m ++ [p] ∧ vE p ∧ p.1 + p.2 ≠ e.1) : (eblk e).foldl addB l = l ++ [e] := by
  obtain ⟨s, n⟩ := e
  obtain ⟨h1, h2, h3, h4, h5⟩ := h
  simp only at h1 h2 h3 h4 h5
  have hf : fits28 l s = false := by
    rcases hn with rfl | ⟨m, ⟨ps, pn⟩, rfl, ⟨g1, g2, g3, g4, g5⟩, hne⟩
    · rfl
    · simp only at g1 g2 g3 g4 g5 hne
      rw [fits_snoc, wr28 (by omega) (by omega), decide_eq_false hne]; simp
  have key : ∀ k : Nat, 1 ≤ k → (k : Int) ≤ n → (run28 s k).foldl addB l = l ++ [(s, (k : Int))] := by
    intro k
    induction k with
    | zero => intro h; omega
    | succ k ih =>
      intro _ hk
      rw [run28_succ, List.foldl_append]
      by_cases hk0 : k = 0
      · subst hk0
        have : IntKind.i64.wrap (s + ((0 : Nat) : Int)) = s := by rw [wr28 (by omega) (by omega)]; omega
        rw [this]
        show addB l s = _
        rw [addB_new hf]; rfl
      · rw [ih (by omega) (by omega)]
        show addB (l ++ [(s, (k : Int))]) _ = _
        rw [addB_last l s k _ (by omega) rfl]
        simp
  have := key n.toNat (by omega) (by omega)
  unfold eblk
  rw [if_pos ⟨h1, h2⟩]
  show (run28 s n.toNat).foldl addB l = _
  rw [this]
  congr 3
  omega
theorem exts_blk {l : List Xt} (hv : ∀ e ∈ l, vE e) (ha : adjN l) : exts (blk l) = l := by
  have key : ∀ j, j ≤ l.length → exts (blk (l.take j)) = l.take j := by
    intro j
    induction j with
    | zero => intro _; rfl
    | succ j ih =>
      intro hj
      rw [xtake_snoc (by omega), blk_snoc]
      unfold exts at ih ⊢
      rw [List.foldl_append, ih (by omega)]
      refine fold_eblk (hv _ (xth_mem (by omega))) _ ?_
      by_cases h0 : j = 0
      · subst h0; exact .inl (by simp)
      · refine .inr ⟨l.take (j - 1), xth l (j - 1), ?_, hv _ (xth_mem (by omega)), ?_⟩
        · rw [← xtake_snoc (by omega)]; congr 1; omega
        · have := ha (j - 1) (by omega)
          rwa [show j - 1 + 1 = j by omega] at this
  have := key l.length (Nat.le_refl _)
  rwa [List.take_length] at this
theorem blk_ge {l : List Xt} (hv : ∀ e ∈ l, vE e) : l.length ≤ (blk l).length := by
  induction l with
  | nil => simp
  | cons e r ih =>
    have h1 := eblk_full (hv e (by simp))
    have h2 := (hv e (by simp)).1
    have : blk (e :: r) = eblk e ++ blk r := by unfold blk; rw [List.flatMap_cons]
    rw [this, List.length_append, List.length_cons]
    have := ih (fun x hx => hv x (by simp [hx]))
    omega
theorem need_le {s : Int} (h : s ≤ 512) : need28 s ≤ 8 := by unfold need28; split <;> omega
theorem cOk_pOk {l : List Xt} {s : Int} (h5 : s ≤ 512) (h : cOk l s) : pOk l s := by
  obtain ⟨hv, ha, hd, hn⟩ := h
  have h8 := need_le h5
  have hg := blk_ge hv
  refine ⟨by omega, fun b hb => ?_, hd, hn, exts_blk hv ha⟩
  unfold blk at hb
  obtain ⟨e, he, hb⟩ := List.mem_flatMap.1 hb
  have := (eblk_mem (hv e he)).1 hb
  obtain ⟨_, _, _, _, _⟩ := hv e he
  omega
/-- What extents of blocks in range are. -/
theorem exts_inv (bs : List Int) (hb : ∀ b ∈ bs, 0 ≤ b ∧ b ≤ 4095) :
    (∀ e ∈ exts bs, vE e) ∧ (∀ i, i + 1 < (exts bs).length → (xth (exts bs) i).1 + (xth (exts bs) i).2 ≠ (xth (exts bs) (i + 1)).1 ∨ (xth (exts bs) i).2 = 8) := by
  have key : ∀ j, j ≤ bs.length → (∀ e ∈ exts (bs.take j), vE e ∧ e.1 + e.2 - 1 ∈ bs) ∧ (∀ i, i + 1 < (exts (bs.take j)).length → (xth (exts (bs.take j)) i).1 + (xth (exts (bs.take j)) i).2 ≠ (xth (exts (bs.take j)) (i + 1)).1 ∨ (xth (exts (bs.take j)) i).2 = 8) := by
    intro j
    induction j with
    | zero => intro _; exact ⟨fun e he => by simp [exts] at he, fun i hi => by simp [exts] at hi⟩
    | succ j ih =>
      intro hj
      obtain ⟨ih1, ih2⟩ := ih (by omega)
      rw [List.take_succ_eq_append_getElem (by omega), exts_snoc]
      have hx := hb _ (List.getElem_mem (show j < bs.length by omega))
      have hxm : bs[j] ∈ bs := List.getElem_mem _
      obtain ⟨b, hbb⟩ : ∃ b, b = bs[j] := ⟨_, rfl⟩
      rw [← hbb] at hx hxm ⊢
      obtain ⟨l, hl⟩ : ∃ l, l = exts (bs.take j) := ⟨_, rfl⟩
      rw [← hl] at ih1 ih2 ⊢
      cases hf : fits28 l b with
      | false =>
        rw [addB_new hf]
        refine ⟨fun e he => ?_, fun i hi => ?_⟩
        · rcases List.mem_append.1 he with he | he
          · exact ih1 e he
          · rw [List.mem_singleton.1 he]
            exact ⟨⟨by simp, by simp, by simp; omega, by simp; omega, by simp; omega⟩, by simpa using hxm⟩
        · simp only [List.length_append, List.length_singleton] at hi
          by_cases hi2 : i + 1 < l.length
          · have e1 : xth (l ++ [(b, 1)]) i = xth l i := by rw [xth_eq (by simp; omega), xth_eq (by omega), List.getElem_append_left (by omega)]
            have e2 : xth (l ++ [(b, 1)]) (i + 1) = xth l (i + 1) := by rw [xth_eq (by simp; omega), xth_eq (by omega), List.getElem_append_left (by omega)]
            rw [e1, e2]; exact ih2 i hi2
          · have hli : l ≠ [] := by intro h; rw [h] at hi; simp at hi
            obtain ⟨m, ⟨s, n⟩, rfl⟩ := snoc28 hli
            have hlen : i = m.length := by simp at hi hi2; omega
            subst hlen
            have e1 : xth (m ++ [(s, n)] ++ [(b, 1)]) m.length = (s, n) := by rw [xth_eq (by simp)]; simp
            have e2 : xth (m ++ [(s, n)] ++ [(b, 1)]) (m.length + 1) = (b, 1) := by rw [xth_eq (by simp)]; simp
            rw [e1, e2]
            obtain ⟨⟨g1, g2, g3, g4, g5⟩, _⟩ := ih1 (s, n) (by simp)
            simp only at g1 g2 g3 g4 g5
            rw [fits_snoc, wr28 (by omega) (by omega)] at hf
            simp only [Bool.and_eq_false_iff, decide_eq_false_iff_not] at hf
            rcases hf with hf | hf
            · exact .inr (show n = 8 by omega)
            · exact .inl hf
      | true =>
        have hli : l ≠ [] := by intro h; rw [h] at hf; cases hf
        obtain ⟨m, ⟨s, n⟩, rfl⟩ := snoc28 hli
        obtain ⟨⟨g1, g2, g3, g4, g5⟩, _⟩ := ih1 (s, n) (by simp)
        simp only at g1 g2 g3 g4 g5
        rw [fits_snoc, wr28 (by omega) (by omega)] at hf
        simp only [Bool.and_eq_true, decide_eq_true_eq] at hf
        rw [addB_last m s n b hf.1 (by rw [wr28 (by omega) (by omega)]; exact hf.2)]
        refine ⟨fun e he => ?_, fun i hi => ?_⟩
        · rcases List.mem_append.1 he with he | he
          · exact ih1 e (by simp [he])
          · rw [List.mem_singleton.1 he]
            refine ⟨⟨by simp; omega, by simp; omega, g3, g4, by simp; omega⟩, ?_⟩
            have : s + (n + 1) - 1 = b := by omega
            show s + (n + 1) - 1 ∈ bs
            rw [this]; exact hxm
        · simp only [List.length_append, List.length_singleton] at hi
          have h1 := ih2 i (by simpa using hi)
          have e1 : xth (m ++ [(s, n + 1)]) i = xth (m ++ [(s, n)]) i := by rw [xth_eq (by simp; omega), xth_eq (by simp; omega), List.getElem_append_left (by omega), List.getElem_append_left (by omega)]
          have e2 : (xth (m ++ [(s, n + 1)]) (i + 1)).1 = (xth (m ++ [(s, n)]) (i + 1)).1 := by
            rw [xth_eq (by simp; omega), xth_eq (by simp; omega)]
            by_cases h : i + 1 < m.length
            · rw [List.getElem_append_left h, List.getElem_append_left h]
            · rw [List.getElem_append_right (by omega), List.getElem_append_right (by omega)]; simp
          rw [e1, e2]; exact h1
  have := key bs.length (Nat.le_refl _)
  rw [List.take_length] at this
  exact ⟨fun e he => (this.1 e he).1, this.2⟩
theorem blk_split {l : List Xt} {i : Nat} (h : i + 1 < l.length) : ∃ a c, l = a ++ [xth l i, xth l (i + 1)] ++ c := by
  refine ⟨l.take i, l.drop (i + 2), ?_⟩
  have h1 : l.take (i + 2) = l.take i ++ [xth l i] ++ [xth l (i + 1)] := by rw [xtake_snoc (show i + 1 < l.length by omega), xtake_snoc (by omega)]
  have h2 : l = l.take (i + 2) ++ l.drop (i + 2) := (List.take_append_drop _ _).symm
  rw [h1] at h2
  simpa using h2
theorem pOk_cOk {l : List Xt} {s : Int} (h5 : s ≤ 512) (h : pOk l s) : cOk l s := by
  obtain ⟨h8, hb, hd, hn, he⟩ := h
  obtain ⟨h1, h2⟩ := exts_inv (blk l) hb
  rw [he] at h1 h2
  have hnl := need_le h5
  refine ⟨h1, fun i hi => ?_, hd, hn⟩
  rcases h2 i hi with h | h
  · exact h
  · exfalso
    obtain ⟨a, c, hl⟩ := blk_split hi
    have v1 := h1 _ (xth_mem (show i < l.length by omega))
    have v2 := h1 _ (xth_mem hi)
    have hlen : 9 ≤ (blk l).length := by
      rw [hl]
      rw [blk_app, blk_app]
      have : blk [xth l i, xth l (i + 1)] = eblk (xth l i) ++ eblk (xth l (i + 1)) := by unfold blk; simp
      rw [this]
      simp only [List.length_append, eblk_full v1, eblk_full v2]
      have := v2.1
      omega
    omega
instance (l : List Xt) (s : Int) : Decidable (pOk l s) := by unfold pOk; exact inferInstance
def okB (l : List Xt) (s : Int) : Bool := decide (pOk l s)
def chk28 (m s : Int) (l : List Xt) : Int := if m < 0 ∨ 2 < m then 1 else if 512 < s then 17 else if s < 0 ∨ (m = 0 ∧ 0 < s) ∨ okB l s = false then 4 else 0
end Go.Proofs.Ytbacnkndllifaaa
