/-
  What is read of a table, plainly.
-/
import Derived.Test.YtnmclhgljpcjcaaSesG
import Derived.Test.YtnmclhgljpcjcaaSesL
import Derived.Test.YtnmclhgljpcjcaaInB
namespace Go.Proofs.Ytnmclhgljpcjcaa
open Go.RowKit
set_option linter.unusedVariables false

def getRow (s : ISt) : ISt × Rw :=
  ((((((s.get 1).1.get 8).1.get 8).1.get 1).1.get 8).1, ⟨(s.get 1).2, ((s.get 1).1.get 8).2, (((s.get 1).1.get 8).1.get 8).2, ((((s.get 1).1.get 8).1.get 8).1.get 1).2, (((((s.get 1).1.get 8).1.get 8).1.get 1).1.get 8).2⟩)
def getRows : Nat → ISt → ISt × List Rw
  | 0, s => (s, [])
  | n + 1, s => ((getRow (getRows n s).1).1, (getRows n s).2 ++ [(getRow (getRows n s).1).2])
theorem getRows_len (n : Nat) (s : ISt) : (getRows n s).2.length = n := by
  induction n with
  | zero => rfl
  | succ n ih => show ((getRows n s).2 ++ [_]).length = n + 1; simp [ih]
def lastS (L : List Rw) : Int := (L.getD (L.length - 1) rw0).s
theorem lastS_snoc (L : List Rw) (x : Rw) : lastS (L ++ [x]) = x.s := by
  unfold lastS
  rw [List.getD_eq_getElem?_getD]
  simp
def GoodR (L : List Rw) : Prop := (∀ r ∈ L, FineR r) ∧ SrtR L
instance (L : List Rw) : Decidable (GoodR L) := by unfold GoodR SrtR; infer_instance
def goodB (L : List Rw) : Bool := decide (GoodR L)
theorem srt_last {L : List Rw} (h : SrtR L) {x : Rw} (hx : x ∈ L) : x.s ≤ lastS L := by
  obtain ⟨j, hj, rfl⟩ := List.getElem_of_mem hx
  have hl : L.length - 1 < L.length := by omega
  unfold lastS
  rw [List.getD_eq_getElem?_getD, List.getElem?_eq_getElem hl, Option.getD_some]
  rcases Nat.lt_or_ge j (L.length - 1) with e | e
  · have := List.pairwise_iff_getElem.1 h j (L.length - 1) hj hl e; omega
  · have : j = L.length - 1 := by omega
    subst this
    exact Int.le_refl _
theorem last_mem {L : List Rw} (h : L ≠ []) : ∃ y ∈ L, y.s = lastS L := by
  have hp := List.length_pos_iff.2 h
  have hl : L.length - 1 < L.length := by omega
  refine ⟨L[L.length - 1], List.getElem_mem hl, ?_⟩
  unfold lastS
  rw [List.getD_eq_getElem?_getD, List.getElem?_eq_getElem hl, Option.getD_some]
theorem good_snoc (M : List Rw) (x : Rw) : GoodR (M ++ [x]) ↔ GoodR M ∧ FineR x ∧ (M = [] ∨ lastS M < x.s) := by
  unfold GoodR SrtR
  rw [List.pairwise_append]
  constructor
  · rintro ⟨h1, h2, _, h3⟩
    refine ⟨⟨fun r hr => h1 r (by simp [hr]), h2⟩, h1 x (by simp), ?_⟩
    by_cases he : M = []
    · exact .inl he
    · obtain ⟨y, hy, hl⟩ := last_mem he
      exact .inr (by rw [← hl]; exact h3 y hy x (by simp))
  · rintro ⟨⟨h1, h2⟩, h3, h4⟩
    refine ⟨fun r hr => ?_, h2, List.pairwise_singleton _ _, fun a ha b hb => ?_⟩
    · rcases List.mem_append.1 hr with hr | hr
      · exact h1 r hr
      · obtain rfl : r = x := by simpa using hr
        exact h3
    · obtain rfl : b = x := by simpa using hb
      rcases h4 with h4 | h4
      · subst h4; cases ha
      · have := srt_last h2 ha; omega
theorem good_take {L : List Rw} (h : GoodR L) (k : Nat) : GoodR (L.take k) := ⟨fun r hr => h.1 r (List.mem_of_mem_take hr), h.2.sublist (List.take_sublist k L)⟩
theorem putR_end {M : List Rw} {x : Rw} (h : ∀ y ∈ M, y.s < x.s) : putR M x = M ++ [x] := by
  induction M with
  | nil => rfl
  | cons y r ih =>
    unfold putR
    rw [if_pos (h y (by simp)), ih (fun z hz => h z (by simp [hz]))]
    rfl
theorem set_end {M : List Rw} {x : Rw} (hm : GoodR M) (hx : FineR x) (hl : lastS M < x.s) : setX M x = 0 ∧ setL M x = M ++ [x] := by
  have hlt : ∀ y ∈ M, y.s < x.s := fun y hy => by have := srt_last hm.2 hy; omega
  have hn : atR M x.s = none := atR_none (fun y hy => by have := hlt y hy; omega)
  have hj : judR M x.s x.b = 0 := by
    unfold judR numR
    rw [hn]
    obtain ⟨f0, f1, f2, _⟩ := hx
    rw [if_neg (by omega)]
    rw [if_pos (by show (0 : Int) < x.b; exact f2)]
  have h0 : setX M x = 0 := by
    unfold setX
    rw [if_neg (fun h => h hx), if_neg (fun h => h hj)]
  exact ⟨h0, by unfold setL; rw [if_pos h0, putR_end hlt]⟩
theorem set_fine {M : List Rw} {x : Rw} (h : setX M x = 0) : FineR x := by
  unfold setX at h
  by_cases hf : FineR x
  · exact hf
  · rw [if_pos hf] at h; cases h
def readS (s : ISt) : ISt × List Rw × Int :=
  if (getRows (s.upto 1 6).2.toNat (s.upto 1 6).1).1.err ≠ 0 then ((getRows (s.upto 1 6).2.toNat (s.upto 1 6).1).1, [], (getRows (s.upto 1 6).2.toNat (s.upto 1 6).1).1.err)
  else if goodB (getRows (s.upto 1 6).2.toNat (s.upto 1 6).1).2 = true then ((getRows (s.upto 1 6).2.toNat (s.upto 1 6).1).1, (getRows (s.upto 1 6).2.toNat (s.upto 1 6).1).2, 0) else ((getRows (s.upto 1 6).2.toNat (s.upto 1 6).1).1, [], 4)
theorem upto_le16 (s : ISt) : 0 ≤ (s.upto 1 6).2 ∧ (s.upto 1 6).2 ≤ 6 := by
  unfold ISt.upto
  rw [if_neg (by decide)]
  split
  · split
    · simp
    · rename_i h; simp only; omega
  · simp
theorem get1_le16 (s : ISt) (hB : IsB s.l) : 0 ≤ (s.get 1).2 ∧ (s.get 1).2 ≤ 255 := by
  unfold ISt.get
  rw [if_neg (by decide)]
  have hl := s.raw_len 1
  have hb : IsB (s.raw 1).2 := by
    unfold ISt.raw
    split
    · split
      · exact IsB.nil
      · split
        · exact IsB.nil
        · exact hB.take _
    · exact IsB.nil
  have := num_lt _ hb
  have h2 : 256 ^ (s.raw 1).2.length ≤ 256 ^ 1 := Nat.pow_le_pow_right (by decide) hl
  simp only
  omega
theorem get_back16 (n k : Nat) (r : List Int) (h1 : 1 ≤ k) (h8 : k ≤ 8) (hn : n < 256 ^ k) : (⟨be n k ++ r, 0⟩ : ISt).get k = (⟨r, 0⟩, (n : Int)) := by
  have hl := be_len n k
  unfold ISt.get ISt.raw
  rw [if_neg (by omega), if_pos rfl, if_neg (by omega), if_neg (by simp only [List.length_append, hl]; omega)]
  simp only [Int.toNat_natCast]
  rw [List.drop_left' hl, List.take_left' hl, num_be, Nat.mod_eq_of_lt hn]
theorem getRow_back (x : Rw) (hf : FineR x) (hx : FitR x) (r : List Int) : getRow ⟨rbs x ++ r, 0⟩ = (⟨r, 0⟩, x) := by
  obtain ⟨y0, y1, y2, y3, y4⟩ := x
  obtain ⟨f0, f1, f2, f3, f4, f5⟩ := hf
  obtain ⟨g0, g1, g2, g3, g4, g5⟩ := hx
  simp only at f0 f1 f2 f3 f4 f5 g0 g1 g2 g3 g4 g5
  unfold rbs
  simp only [List.append_assoc]
  have e1 := get_back16 y0.toNat 1 (be y1.toNat 8 ++ (be y2.toNat 8 ++ (be y3.toNat 1 ++ (be y4.toNat 8 ++ r)))) (by decide) (by decide) (by omega)
  have e2 := get_back16 y1.toNat 8 (be y2.toNat 8 ++ (be y3.toNat 1 ++ (be y4.toNat 8 ++ r))) (by decide) (by decide) (by omega)
  have e3 := get_back16 y2.toNat 8 (be y3.toNat 1 ++ (be y4.toNat 8 ++ r)) (by decide) (by decide) (by omega)
  have e4 := get_back16 y3.toNat 1 (be y4.toNat 8 ++ r) (by decide) (by decide) (by omega)
  have e5 := get_back16 y4.toNat 8 r (by decide) (by decide) (by omega)
  have c1 : ((1 : Nat) : Int) = 1 := rfl
  have c8 : ((8 : Nat) : Int) = 8 := rfl
  rw [c1] at e1 e4
  rw [c8] at e2 e3 e5
  unfold getRow
  simp only [e1, e2, e3, e4, e5]
  simp only [Prod.mk.injEq, true_and, Rw.mk.injEq]
  omega
theorem getRows_back {L : List Rw} (hok : ∀ r ∈ L, FineR r ∧ FitR r) (k : Nat) (hk : k ≤ L.length) : getRows k ⟨L.flatMap rbs, 0⟩ = (⟨(L.drop k).flatMap rbs, 0⟩, L.take k) := by
  induction k with
  | zero => simp [getRows]
  | succ k ih =>
    have hlt : k < L.length := by omega
    have hd : L.drop k = L[k] :: L.drop (k + 1) := List.drop_eq_getElem_cons hlt
    have ho := hok _ (List.getElem_mem hlt)
    show ((getRow (getRows k _).1).1, (getRows k _).2 ++ [(getRow (getRows k _).1).2]) = _
    rw [ih (by omega), hd, List.flatMap_cons, getRow_back _ ho.1 ho.2, List.take_succ_eq_append_getElem hlt]
theorem readS_back {L : List Rw} (hg : GoodR L) (hok : ∀ r ∈ L, FineR r ∧ FitR r) (hl : L.length ≤ 6) : readS ⟨bytesR L, 0⟩ = (⟨[], 0⟩, L, 0) := by
  have hu : (⟨bytesR L, 0⟩ : ISt).upto 1 6 = (⟨L.flatMap rbs, 0⟩, (L.length : Int)) := by
    have e1 := get_back16 L.length 1 (L.flatMap rbs) (by decide) (by decide) (by omega)
    have c1 : ((1 : Nat) : Int) = 1 := rfl
    rw [c1] at e1
    rw [ISt.upto_get _ 1 6 (by decide)]
    unfold bytesR
    rw [e1]
    simp only
    rw [if_neg (by omega)]
  unfold readS
  rw [hu]
  simp only [Int.toNat_natCast]
  rw [getRows_back hok L.length (Nat.le_refl _)]
  simp only [List.take_length, List.drop_length, List.flatMap_nil]
  rw [if_neg (by simp), if_pos (show goodB L = true from decide_eq_true hg)]
end Go.Proofs.Ytnmclhgljpcjcaa
