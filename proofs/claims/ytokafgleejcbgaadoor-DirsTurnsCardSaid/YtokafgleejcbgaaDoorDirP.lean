/-
  Layer 29: Get of the package.
-/
import Derived.Test.YtokafgleejcbgaaDoorDirO
import Derived.Laws.BytesArg
import Derived.Lib.Bytes
namespace Go.Proofs.YtokafgleejcbgaaDoor
open Go.RowKit
set_option linter.unusedVariables false

theorem BSl.conv29 {P : Program} {w : World} {F : Nat → Prop} {v : Value} {l : List Int} (h : BSl w F v l) (src e dst : TypeId) (hs : P.underlying src = some (.slice e)) (he : P.underlying e = some (.int .u8)) (hd : P.underlying dst = some .string) :
    (convert src dst v).run P w = .ok (.string ⟨(bytesU l).toArray⟩) w := by
  obtain ⟨a, cap, rfl, hc, hm, hn, hr⟩ := h
  by_cases hl : l.length = 0
  · obtain rfl : l = [] := List.eq_nil_of_length_eq_zero hl
    show (convert src dst (.slice a 0 cap)).run P w = .ok (.string ByteArray.empty) w
    rw [run_convert_bytes_string w src dst e _ 0 cap hs he hd]
    cases a <;> simp [Conv.bytesToString, loadCells]
    all_goals rfl
  · obtain ⟨b, o, rfl, _⟩ := hr.at_ (j := 0) (by omega)
    exact run_convert_bytes_arg (P := P) w src e hs he b o l.length cap l rfl (fun i hi => by obtain ⟨b', o', e1, _, _, hc⟩ := hr.at_ hi; cases e1; exact hc) dst hd
theorem bytesU_inj29 (l m : List Int) (h1 : IsB l) (h2 : IsB m) (h : bytesU l = bytesU m) : l = m := by rw [← ints_bytesU l h1, h, ints_bytesU m h2]
theorem celE_cons (p : En) (ps : List En) : celE (p :: ps) = .string ⟨p.1.toArray⟩ :: .int .i64 p.2 :: celE ps := by unfold celE; rw [List.flatMap_cons]; rfl
theorem celE_set (ps : List En) (k : Nat) (hk : k < ps.length) (x : En) : celE (ps.set k x) = ((celE ps).set (k * 2) (.string ⟨x.1.toArray⟩)).set (k * 2 + 1) (.int .i64 x.2) := by
  induction ps generalizing k with
  | nil => exact absurd hk (by simp)
  | cons p ps ih =>
    cases k with
    | zero => rw [List.set_cons_zero, celE_cons, celE_cons]; rfl
    | succ k =>
      rw [List.set_cons_succ, celE_cons, celE_cons, ih k (by simpa using hk)]
      rw [show (k + 1) * 2 = k * 2 + 1 + 1 by omega]
      rfl
/-- Block r is a row of these entries, and no more. -/
def RowE (w : World) (r : Nat) (ps : List En) : Prop := w.heap[r]? = some (.cells (celE ps).toArray 32 (0, 0))
theorem RowE.set {w : World} {r : Nat} {ps : List En} (h : RowE w r ps) (k : Nat) (hk : k < ps.length) (x : En) : RowE ((w.setCell ⟨r, k * 2, none⟩ (.string ⟨x.1.toArray⟩)).setCell ⟨r, k * 2 + 1, none⟩ (.int .i64 x.2)) r (ps.set k x) := by
  have h1 := heap_setCell_same w r (k * 2) _ _ (.string ⟨x.1.toArray⟩) h
  have h2 := heap_setCell_same _ r (k * 2 + 1) _ _ (.int .i64 x.2) h1
  unfold RowE
  rw [h2, celE_set ps k hk]
  simp
theorem RowE.at_ {w : World} {r : Nat} {ps : List En} (h : RowE w r ps) {j : Nat} (hj : j < ps.length) : w.cell? ⟨r, j * 2, none⟩ = some (.string ⟨(eth ps j).1.toArray⟩) ∧ w.cell? ⟨r, j * 2 + 1, none⟩ = some (.int .i64 (eth ps j).2) := by
  obtain ⟨h1, h2⟩ := celE_at hj
  exact ⟨by rw [cell_of_row _ _ _ _ _ _ h, List.getElem?_toArray, h1], by rw [cell_of_row _ _ _ _ _ _ h, List.getElem?_toArray, h2]⟩
theorem RowE.sl {w : World} {r c : Nat} {ps : List En} {F : Nat → Prop} (h : RowE w r ps) (hF : F r) (hc : ps.length ≤ c) (hm : c ≤ maxLen) : ESl w F (.slice (some ⟨r, 0, none⟩) ps.length c) ps :=
  ⟨_, c, rfl, hc, hm, (fun h => by cases h), fun _ => ⟨r, 0, rfl, hF, heap_lt h, fun j hj => by
    have := h.at_ hj
    rw [Nat.zero_add]
    exact this⟩⟩
theorem made_celE (n : Nat) : (madeCells (#[.string ByteArray.empty, .int .i64 0] : Array Value) (n * 2)).toList = celE (List.replicate n ([], 0)) := by
  refine List.ext_getElem? (fun m => ?_)
  have hl : (celE (List.replicate n (([], 0) : En))).length = n * 2 := by rw [celE_len, List.length_replicate]
  by_cases hm : m < n * 2
  · have h1 : (madeCells (#[.string ByteArray.empty, .int .i64 0] : Array Value) (n * 2)).toList[m]? = some ((#[.string ByteArray.empty, .int .i64 0] : Array Value)[m % 2]!) := by
      unfold madeCells
      simp [hm]
    rw [h1]
    obtain ⟨h2, h3⟩ := celE_at (l := List.replicate n (([], 0) : En)) (i := m / 2) (by rw [List.length_replicate]; omega)
    have hx : eth (List.replicate n (([], 0) : En)) (m / 2) = ([], 0) := by rw [eth_eq (by rw [List.length_replicate]; omega)]; simp
    rw [hx] at h2 h3
    rcases (by omega : m % 2 = 0 ∨ m % 2 = 1) with hp | hp
    · rw [show m / 2 * 2 = m by omega] at h2
      rw [h2, hp]; rfl
    · rw [show m / 2 * 2 + 1 = m by omega] at h3
      rw [h3, hp]; rfl
  · rw [List.getElem?_eq_none (by rw [Array.length_toList, size_madeCells]; omega), List.getElem?_eq_none (by rw [hl]; omega)]
/-- What make gives. -/
theorem RowE.made {w : World} {B n g : Nat} (h : w.ownsRow B 32 2 (.slice (some ⟨g, 0, none⟩) n n) n (madeCells (#[.string ByteArray.empty, .int .i64 0] : Array Value) (n * 2)).toList) : RowE w g (List.replicate n ([], 0)) := by
  rcases h.2 with ⟨hv, _⟩ | ⟨g', cap, cur, hv, hb, hr, hc, hm, hs, ht⟩
  · cases hv
  · injection hv with hv hn hcap
    injection hv with hv
    injection hv with hv _ _
    subst hv hcap
    unfold RowE
    rw [hr]
    have e : cur.toList = celE (List.replicate n ([], 0)) := by
      have h1 := List.take_of_length_le (l := cur.toList) (i := n * 2) (by simp [hs])
      exact (h1.symm.trans ht).trans (made_celE n)
    rw [← e]
theorem set2r_kept (w : World) (r o1 o2 : Nat) (a b : Value) : Kept (fun k => k = r) w ((w.setCell ⟨r, o1, none⟩ a).setCell ⟨r, o2, none⟩ b) :=
  ((Kept.refl (fun i => i = r) w).setCell (p := ⟨r, o1, none⟩) (.inl rfl) _).setCell (p := ⟨r, o2, none⟩) (.inl rfl) _
theorem rep_set29 (L : List En) (m : Nat) (z x : En) : (L ++ List.replicate (m + 1) z).set L.length x = (L ++ [x]) ++ List.replicate m z := by
  rw [List.set_append_right _ _ (Nat.le_refl _), Nat.sub_self, List.replicate_succ, List.set_cons_zero, List.append_assoc]
  rfl
/-- What Get tells. -/
def GetE29 (er : Int) (l : List En) (w : World) (e : Ending) (w' : World) : Prop := ∃ v, e = .returned (.tuple #[v, .int .i64 er]) ∧ ESl w' (fun k => w.heap.size ≤ k) v l ∧ Kept NoB w w'
theorem GetE29.nil {er q : Int} {w w' : World} (hq : q = er) (hk : Kept NoB w w') : GetE29 er [] w (.returned (.tuple #[.slice none 0 0, .int .i64 q])) w' := by subst hq; exact ⟨_, rfl, ESl.nil _ _, hk⟩
end Go.Proofs.YtokafgleejcbgaaDoor
