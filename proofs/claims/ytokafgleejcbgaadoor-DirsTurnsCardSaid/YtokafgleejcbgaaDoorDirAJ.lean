/-
  Layer 29: Names of the package.
-/
import Derived.Test.YtokafgleejcbgaaDoorDirAI
namespace Go.Proofs.YtokafgleejcbgaaDoor
open Go.RowKit
set_option linter.unusedVariables false

/-- Block r is a row of these texts, and no more. -/
def RowT (w : World) (r : Nat) (ps : List (List UInt8)) : Prop := w.heap[r]? = some (.cells (sv29 ps).toArray 9 (0, 0))
theorem RowT.set {w : World} {r : Nat} {ps : List (List UInt8)} (h : RowT w r ps) (k : Nat) (x : List UInt8) : RowT (w.setCell ⟨r, k, none⟩ (.string ⟨x.toArray⟩)) r (ps.set k x) := by
  have h1 := heap_setCell_same w r k _ _ (.string ⟨x.toArray⟩) h
  unfold RowT
  rw [h1]
  unfold sv29
  simp [List.map_set]
theorem RowT.at_ {w : World} {r : Nat} {ps : List (List UInt8)} (h : RowT w r ps) {j : Nat} (hj : j < ps.length) : w.cell? ⟨r, j, none⟩ = some (.string ⟨(ps.getD j []).toArray⟩) := by
  rw [cell_of_row _ _ _ _ _ _ h, List.getElem?_toArray]
  unfold sv29
  simp [List.getElem?_eq_getElem hj]
theorem RowT.sl {w : World} {r c : Nat} {ps : List (List UInt8)} {F : Nat → Prop} (h : RowT w r ps) (hF : F r) (hc : ps.length ≤ c) (hm : c ≤ maxLen) : TSl w F (.slice (some ⟨r, 0, none⟩) ps.length c) ps :=
  ⟨_, c, rfl, hc, hm, (fun h => by cases h), fun _ => ⟨r, 0, rfl, hF, heap_lt h, fun j hj => by rw [Nat.zero_add]; exact h.at_ hj⟩⟩
theorem made_sv29 (n : Nat) : (madeCells (#[.string ByteArray.empty] : Array Value) (n * 1)).toList = sv29 (List.replicate n []) := by
  refine List.ext_getElem? (fun m => ?_)
  by_cases hm : m < n
  · unfold madeCells sv29
    simp [hm, Nat.mod_one]
    rfl
  · rw [List.getElem?_eq_none (by rw [Array.length_toList, size_madeCells]; omega), List.getElem?_eq_none (by rw [sv29_len, List.length_replicate]; omega)]
/-- What make gives. -/
theorem RowT.made {w : World} {B n g : Nat} (h : w.ownsRow B 9 1 (.slice (some ⟨g, 0, none⟩) n n) n (madeCells (#[.string ByteArray.empty] : Array Value) (n * 1)).toList) : RowT w g (List.replicate n []) := by
  rcases h.2 with ⟨hv, _⟩ | ⟨g', cap, cur, hv, hb, hr, hc, hm, hs, ht⟩
  · cases hv
  · injection hv with hv hn hcap
    injection hv with hv
    injection hv with hv _ _
    subst hv hcap
    unfold RowT
    rw [hr]
    have e : cur.toList = sv29 (List.replicate n []) := by
      have h1 := List.take_of_length_le (l := cur.toList) (i := n * 1) (by simp [hs])
      exact (h1.symm.trans ht).trans (made_sv29 n)
    rw [← e]
theorem frzT {w : World} {g : Nat} {ps : List (List UInt8)} (h : RowT w g ps) (o : Nat) : w.frozen? ⟨g, o, none⟩ = false := by unfold RowT at h; simp [World.frozen?, h]
theorem rep_setT (L : List (List UInt8)) (m : Nat) (x : List UInt8) : (L ++ List.replicate (m + 1) []).set L.length x = (L ++ [x]) ++ List.replicate m [] := by
  rw [List.set_append_right _ _ (Nat.le_refl _), Nat.sub_self, List.replicate_succ, List.set_cons_zero, List.append_assoc]
  rfl
def NmRel (w : World) (l : List En) (r : Nat) (iv : Value) (wr : World) : Prop :=
  ∃ k : Nat, k ≤ l.length ∧ iv = .int .i64 k ∧ RowT wr r ((l.take k).map (·.1) ++ List.replicate (l.length - k) []) ∧ Kept (fun i => w.heap.size ≤ i) w wr
set_option maxRecDepth 100000 in
set_option maxHeartbeats 1000000 in
theorem Names29_any (v : Value) (l : List En) (F : Nat → Prop) (w : World) (h : ESl w F v l) (hF : ∀ k, F k → k < w.heap.size) (hl : l.length ≤ 1000) :
    Calls Tryd.prog 15 #[v] w fun e w' => ∃ u, e = .returned u ∧ TSl w' (fun k => w.heap.size ≤ k) u (l.map (·.1)) ∧ Kept NoB w w' := by
  obtain ⟨i0, hi0, hz0, hz1, hz2⟩ := info_parts info_string29
  obtain ⟨a, cap, rfl, _⟩ := h.form
  have HP := Lib.hid h
  have HF := Lib.hid hF
  clear h hF
  go_enter Tryd.func15, Tryd.ntmps15
  go_wp2_with (at_make; refine wpList_make_full _ rfl (.tmp 7) (.tmp 7) 41 rfl w.heap.size 9 i0 _ 1 Tryd.underlying41 hi0 hz0 hz1 .i64 .i64 _ _ l.length rfl rfl rfl rfl (by rw [hz2]; omega) (by unfold maxLen; omega) (Nat.le_refl _) ?_; intro w4 hown hgrow; have HOW := Lib.hid hown; have hkm : Kept NoB w w4 := (Kept.refl NoB w).grown hgrow (fun k hk => by cases hk); have HKM := Lib.hid hkm; clear hown hgrow hkm)
  obtain ⟨r, hr⟩ : ∃ r, r = w.heap.size := ⟨_, rfl⟩
  have hrow : RowT w4 w.heap.size (List.replicate l.length []) := RowT.made HOW.out
  have H0 : Hid (NmRel w l r (.int .i64 0) w4) := Lib.hid ⟨0, Nat.zero_le _, rfl, by rw [hr]; exact hrow, HKM.out.mono (fun _ _ h => h.elim)⟩
  have HRR : Hid (w.heap.size ≤ r ∧ r = w.heap.size) := Lib.hid ⟨by omega, hr⟩
  rw [← hr]
  clear hr hrow HOW HKM
  go_wp2_with fail
  go_loopw [11] (fun i wr => NmRel w l r i wr) (fun i _ => l.length - (RowKit.intOf i).toNat)
  case atStart => exact H0.out
  case round =>
    obtain ⟨k, hk, rfl, hrow, hK⟩ := hrel
    have hk0 : (0 : Int) ≤ (k : Int) := by omega
    have HRW := Lib.hid hrow
    have HK := Lib.hid hK
    by_cases hlt : k < l.length
    · have hk1 : (k : Int) < (l.length : Int) := by omega
      obtain ⟨b, o, rfl, _, _, e0, e1⟩ := (HP.out.kept hK (fun i _ hf h => by have := HF.out i hf; have h : w.heap.size ≤ i := h; omega)).at_ hlt
      have hS : l.take (k + 1) = l.take k ++ [eth l k] := etake_snoc hlt
      obtain ⟨y, hy⟩ : ∃ y, y = eth l k := ⟨_, rfl⟩
      rw [← hy] at e0 e1 hS
      obtain ⟨x, z⟩ := y
      simp only at e0 e1
      obtain ⟨L, hL⟩ : ∃ L, L = (l.take k).map (·.1) := ⟨_, rfl⟩
      have hLl : L.length = k := by rw [hL, List.length_map, List.length_take]; omega
      rw [← hL] at HRW
      have hrlen : k < (L ++ List.replicate (l.length - k) []).length := by rw [List.length_append, List.length_replicate, hLl]; omega
      have hka := (Kept.refl NoB wr).alloc (.cells #[.string ⟨x.toArray⟩, .int .i64 z] 32)
      have hrA : RowT (wr.alloc (.cells #[.string ⟨x.toArray⟩, .int .i64 z] 32)) r (L ++ List.replicate (l.length - k) []) := hka.heap (fun h => h) HRW.out
      have z0 := hrA.at_ hrlen
      have fz0 := frzT hrA k
      have hrS := hrA.set k x
      rw [show l.length - k = (l.length - (k + 1)) + 1 by omega] at hrS
      have hset : (L ++ List.replicate ((l.length - (k + 1)) + 1) []).set k x = (L ++ [x]) ++ List.replicate (l.length - (k + 1)) [] := by
        have := rep_setT L (l.length - (k + 1)) x
        rwa [hLl] at this
      rw [hset] at hrS
      have HRS : Hid (RowT ((wr.alloc (.cells #[.string ⟨x.toArray⟩, .int .i64 z] 32)).setCell ⟨r, k, none⟩ (.string ⟨x.toArray⟩)) r ((l.take (k + 1)).map (·.1) ++ List.replicate (l.length - (k + 1)) [])) := Lib.hid (by rw [hS, List.map_append, ← hL]; exact hrS)
      have HKS : Hid (Kept (fun i => w.heap.size ≤ i) w ((wr.alloc (.cells #[.string ⟨x.toArray⟩, .int .i64 z] 32)).setCell ⟨r, k, none⟩ (.string ⟨x.toArray⟩))) := Lib.hid ((HK.out.alloc _).setCell (p := ⟨r, k, none⟩) (.inl HRR.out.1) _)
      obtain ⟨sx, hsx⟩ : ∃ s : ByteArray, s = ⟨x.toArray⟩ := ⟨_, rfl⟩
      rw [← hsx] at e0 hka hrA z0 fz0 HRS HKS
      clear hS hy hL hLl hrlen hka hrA hrS hset hsx hrow hK HRW HK
      go_wp2_with fail
      exact ⟨⟨k + 1, by omega, by go_num, HRS.out, HKS.out⟩, by simp [RowKit.intOf]; omega⟩
    · obtain rfl : k = l.length := by omega
      rw [List.take_length, Nat.sub_self] at HRW
      have HRZ : Hid (RowT wr r (l.map (·.1))) := Lib.hid (by have := HRW.out; simpa using this)
      clear hrow hK HRW
      go_wp2_with fail
      go_ret
      exact ⟨_, rfl, by
        have := RowT.sl (F := fun k => w.heap.size ≤ k) (c := l.length) HRZ.out HRR.out.1 (by simp) (by unfold maxLen; omega)
        rwa [List.length_map] at this, kept_new29 HK.out⟩
end Go.Proofs.YtokafgleejcbgaaDoor
