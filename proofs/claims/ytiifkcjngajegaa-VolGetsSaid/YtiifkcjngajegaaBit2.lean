/-
  Package bits: Take, Give. Package bits: Give. The chapter's: Set, Take, Give. The chapter's bitmaps: Set, Take, Give. The chapter's bitmaps: Take. The chapter's bitmaps: Give. Layer 27: the page's example; BitsAre.
-/
import Derived.Test.YtiifkcjngajegaaBit1
import Derived.Deep.CutRange
import Derived.Outline
import Derived.WalkMore
import Derived.Deep.RegionLaw
namespace Go.Proofs.Ytiifkcjngajegaa
open Go.RowKit
set_option linter.unusedVariables false

theorem hadL_prefix (f : Nat → Bool) {i n : Nat} (h : i ≤ n) : hadL f i <+: hadL f n := by
  induction n with
  | zero => obtain rfl : i = 0 := by omega
            exact List.prefix_refl _
  | succ n ih =>
    by_cases e : i = n + 1
    · rw [e]; exact List.prefix_refl _
    · have h1 := ih (by omega)
      cases hf : f n
      · rw [hadL_no hf]; exact h1
      · rw [hadL_yes hf]; exact h1.trans (List.prefix_append _ _)
/-- The free ones. -/
def frL (l : List Int) (n : Nat) : List Int := hadL (fun i => !bitN l i) n
theorem frL_take {l : List Int} {i n k : Nat} (h : i ≤ n) (hk : (frL l i).length = k ∨ i = n ∧ (frL l i).length ≤ k) : frL l i = (frL l n).take k := by
  have hp := List.prefix_iff_eq_take.1 (hadL_prefix (fun j => !bitN l j) h)
  rcases hk with hk | ⟨rfl, hk⟩
  · rw [← hk]; exact hp
  · rw [List.take_of_length_le hk]
/-- What Take tells. -/
def tkE (l : List Int) (n k : Int) : Int := if fitB l n then (if k < 0 then 1 else if (n.toNat : Int) - (hadL (bitN l) n.toNat).length < k then 16 else 0) else 4
def tkT (l : List Int) (n k : Int) : List Int := if tkE l n k = 0 then (frL l n.toNat).take k.toNat else []
def TkM (l : List Int) (n k : Int) (M : List Int) : Prop := if tkE l n k = 0 then BM (fun j => bitN l j || decide ((j : Int) ∈ tkT l n k)) n.toNat M else M = []
theorem TkM.uniq {l : List Int} {n k : Int} {M M' : List Int} (h : TkM l n k M) (h' : TkM l n k M') : M = M' := by
  unfold TkM at h h'
  by_cases e : tkE l n k = 0
  · rw [if_pos e] at h h'
    exact h.uniq h' (fun _ _ => rfl)
  · rw [if_neg e] at h h'
    rw [h, h']
def TakeE (er : Int) (P : List Int → Prop) (T : List Int) (w : World) (e : Ending) (w' : World) : Prop :=
  ∃ a c b d M, e = .returned (.tuple #[.slice a M.length c, .slice b T.length d, .int .i64 er]) ∧ P M ∧ BSl w' (fun k => w.heap.size ≤ k) (.slice a M.length c) M ∧ NSl w' (fun k => w.heap.size ≤ k) (.slice b T.length d) T ∧ Kept NoB w w'
theorem TakeE.nil {er : Int} {P : List Int → Prop} {w w' : World} (hp : P []) (hk : Kept NoB w w') : TakeE er P [] w (.returned (.tuple #[.slice none 0 0, .slice none 0 0, .int .i64 er])) w' :=
  ⟨none, 0, none, 0, [], rfl, hp, BSl.nil _ _, NSl.nil _ _, hk⟩
end Go.Proofs.Ytiifkcjngajegaa
namespace Go.Proofs.Ytiifkcjngajegaa
open Go.RowKit
set_option linter.unusedVariables false

/-- What Give tells, number by number. -/
def gvE (f : Nat → Bool) (n : Nat) (done : List Int) : List Int → Int
  | [] => 0
  | x :: r => if x < 0 ∨ (n : Int) ≤ x then 20 else if f x.toNat && !decide (x ∈ done) then gvE f n (done ++ [x]) r else 7
theorem drop_cons27 {L : List Int} {j : Nat} (h : j < L.length) : L.drop j = L.getD j 0 :: L.drop (j + 1) := by
  rw [List.drop_eq_getElem_cons h, List.getD_eq_getElem?_getD, List.getElem?_eq_getElem h]; rfl
theorem gvE_range {f : Nat → Bool} {n : Nat} {L : List Int} {j : Nat} (h : j < L.length) (hx : L.getD j 0 < 0 ∨ (n : Int) ≤ L.getD j 0) : gvE f n (L.take j) (L.drop j) = 20 := by
  rw [drop_cons27 h, gvE, if_pos hx]
theorem gvE_none {f : Nat → Bool} {n : Nat} {L : List Int} {j k : Nat} (h : j < L.length) (hx : L.getD j 0 = (k : Int)) (hk : k < n) (hb : (f k && !decide ((k : Int) ∈ L.take j)) = false) : gvE f n (L.take j) (L.drop j) = 7 := by
  rw [drop_cons27 h, gvE, hx, if_neg (by omega), Int.toNat_natCast, hb]; rfl
theorem gvE_step {f : Nat → Bool} {n : Nat} {L : List Int} {j k : Nat} (h : j < L.length) (hx : L.getD j 0 = (k : Int)) (hk : k < n) (hb : (f k && !decide ((k : Int) ∈ L.take j)) = true) : gvE f n (L.take j) (L.drop j) = gvE f n (L.take (j + 1)) (L.drop (j + 1)) := by
  rw [drop_cons27 h, gvE, take_snoc h, hx, if_neg (by omega), Int.toNat_natCast, hb]; rfl
theorem gvE_end (f : Nat → Bool) (n : Nat) (L D : List Int) : gvE f n D (L.drop L.length) = 0 := by rw [List.drop_length]; rfl
/-- What Give is. -/
def gv27 (l : List Int) (n : Int) (L : List Int) : Int := if fitB l n then gvE (bitN l) n.toNat [] L else 4
def GvM (l : List Int) (n : Int) (L : List Int) (M : List Int) : Prop := if gv27 l n L = 0 then BM (fun j => bitN l j && !decide ((j : Int) ∈ L)) n.toNat M else M = []
theorem GvM.uniq {l : List Int} {n : Int} {L M M' : List Int} (h : GvM l n L M) (h' : GvM l n L M') : M = M' := by
  unfold GvM at h h'
  by_cases e : gv27 l n L = 0
  · rw [if_pos e] at h h'
    exact h.uniq h' (fun _ _ => rfl)
  · rw [if_neg e] at h h'
    rw [h, h']
def GiveE (er : Int) (P : List Int → Prop) (w : World) (e : Ending) (w' : World) : Prop :=
  ∃ a c M, e = .returned (.tuple #[.slice a M.length c, .int .i64 er]) ∧ P M ∧ BSl w' (fun k => w.heap.size ≤ k) (.slice a M.length c) M ∧ Kept NoB w w'
theorem GiveE.nil {er er' : Int} {P : List Int → Prop} {w w' : World} (he : er = er') (hp : P []) (hk : Kept NoB w w') : GiveE er P w (.returned (.tuple #[.slice none 0 0, .int .i64 er'])) w' := by
  subst he
  exact ⟨none, 0, [], rfl, hp, BSl.nil _ _, hk⟩
end Go.Proofs.Ytiifkcjngajegaa
namespace Go.Proofs.Ytiifkcjngajegaa
open Go.RowKit
set_option linter.unusedVariables false

theorem memNat {f : Nat → Bool} {n j : Nat} : decide ((j : Int) ∈ hadL f n) = (decide (j < n) && f j) := by
  by_cases h : (j : Int) ∈ hadL f n
  · rw [decide_eq_true h]
    obtain ⟨i, h1, h2, h3⟩ := hadL_mem.1 h
    obtain rfl : j = i := by omega
    simp [h2, h3]
  · rw [decide_eq_false h]
    by_cases h2 : j < n
    · have : f j = false := by
        cases hf : f j
        · rfl
        · exact absurd (hadL_mem.2 ⟨j, rfl, h2, hf⟩) h
      simp [this]
    · simp [h2]
theorem wo27_mem {L : List Int} {x y : Int} : y ∈ wo27 L x ↔ y ∈ L ∧ y ≠ x := by unfold wo27; simp
end Go.Proofs.Ytiifkcjngajegaa
namespace Go.Proofs.Ytiifkcjngajegaa
open Go.RowKit
set_option linter.unusedVariables false

end Go.Proofs.Ytiifkcjngajegaa
namespace Go.Proofs.Ytiifkcjngajegaa
open Go.RowKit
set_option linter.unusedVariables false

/-- The numbers that are had and not given back. -/
def lf27 (H L : List Int) : List Int := H.filter fun y => !decide (y ∈ L)
theorem lf27_nil (H : List Int) : lf27 H [] = H := by unfold lf27; simp
theorem lf27_snoc (H L : List Int) (x : Int) : lf27 H (L ++ [x]) = wo27 (lf27 H L) x := by
  unfold lf27 wo27
  rw [List.filter_filter]
  refine List.filter_congr fun y _ => ?_
  by_cases h1 : y ∈ L <;> by_cases h2 : y = x <;> simp [h1, h2]
theorem lf27_mem {H L : List Int} {y : Int} : y ∈ lf27 H L ↔ y ∈ H ∧ ¬ y ∈ L := by unfold lf27; simp
theorem lf27_len (H L : List Int) : (lf27 H L).length ≤ H.length := List.length_filter_le _ _
end Go.Proofs.Ytiifkcjngajegaa
namespace Go.Proofs.Ytiifkcjngajegaa
open Go.RowKit
set_option linter.unusedVariables false

theorem bsl_one27 {w : World} {b : Nat} {x : Int} (h0 : 0 ≤ x) (h1 : x < 256) (hb : w.heap[b]? = some (.cells #[.int .u8 x] 5 (0, 0))) : BSl w (fun _ => True) (.slice (some ⟨b, 0, none⟩) 1 1) [x] :=
  ⟨_, 1, rfl, Nat.le_refl _, by unfold maxLen; omega, (fun h => by cases h), fun y hy => by rw [List.mem_singleton.1 hy]; exact ⟨h0, h1⟩, fun _ => ⟨b, 0, rfl, trivial, heap_lt hb, fun j hj => by
    have : j = 0 := by simpa using hj
    subst this
    exact cell_of_row _ _ 0 _ _ _ hb⟩⟩
theorem nsl_two27 {w : World} {b : Nat} {x y : Int} (hb : w.heap[b]? = some (.cells #[.int .i64 x, .int .i64 y] 3 (0, 0))) : NSl w (fun _ => True) (.slice (some ⟨b, 0, none⟩) 2 2) [x, y] :=
  ⟨_, 2, rfl, Nat.le_refl _, by unfold maxLen; omega, (fun h => by cases h), fun _ => ⟨b, 0, rfl, trivial, heap_lt hb, fun j hj => by
    have : j = 0 ∨ j = 1 := by have : j < 2 := hj; omega
    rcases this with rfl | rfl
    · exact cell_of_row _ _ 0 _ _ _ hb
    · exact cell_of_row _ _ 1 _ _ _ hb⟩⟩
theorem BSl.first27 {w : World} {F : Nat → Prop} {a : Option Addr} {n c : Nat} {l : List Int} (h : BSl w F (.slice a n c) l) (h0 : 0 < l.length) : ∃ b o, a = some ⟨b, o, none⟩ ∧ w.cell? ⟨b, o, none⟩ = some (.int .u8 (l.getD 0 0)) := by
  obtain ⟨a', cap, he, _, _, _, hr⟩ := h
  injection he with he
  subst he
  obtain ⟨b, o, ha, _, _, hc⟩ := hr.at_ h0
  exact ⟨b, o, ha, hc⟩
theorem ex27 : tkE [5] 5 2 = 0 ∧ tkT [5] 5 2 = [1, 3] ∧ ∀ M, TkM [5] 5 2 M → M = [15] := by
  have he : tkE [5] 5 2 = 0 := by decide +kernel
  have hT : tkT [5] 5 2 = [1, 3] := by decide +kernel
  refine ⟨he, hT, fun M hM => ?_⟩
  unfold TkM at hM
  rw [if_pos he, hT] at hM
  have h15 : BM (fun j => bitN [5] j || decide ((j : Int) ∈ ([1, 3] : List Int))) 5 [15] := by
    refine ⟨fun x hx => by rw [List.mem_singleton.1 hx]; omega, by decide, fun i => ?_⟩
    by_cases hi : i < 8
    · have : ∀ i, i < 8 → bitN [15] i = (decide (i < 5) && (bitN [5] i || decide ((i : Int) ∈ ([1, 3] : List Int)))) := by decide +kernel
      exact this i hi
    · rw [bitN_ge (by simp; omega), decide_eq_false (by omega)]; rfl
  exact BM.uniq hM h15 (fun _ _ => rfl)
end Go.Proofs.Ytiifkcjngajegaa
