/-
  Package vers: List.
-/
import Derived.Test.YtnmclhgljpcjcaaVerF
namespace Go.Proofs.Ytnmclhgljpcjcaa
open Go.RowKit
set_option linter.unusedVariables false

theorem vcl_set (ps : List (Vn × Value)) (k : Nat) (hk : k < ps.length) (x : Vn) (u : Value) : vcl (ps.set k (x, u)) = (((vcl ps).set (k * 3) (.int .u64 x.r)).set (k * 3 + 1) (.int .u64 x.q)).set (k * 3 + 2) u := by
  induction ps generalizing k with
  | nil => exact absurd hk (by simp)
  | cons p ps ih =>
    have e : ∀ (p : Vn × Value) ps, vcl (p :: ps) = [.int .u64 p.1.r, .int .u64 p.1.q, p.2] ++ vcl ps := fun _ _ => rfl
    cases k with
    | zero => rw [List.set_cons_zero, e, e]; rfl
    | succ k =>
      rw [List.set_cons_succ, e, e, ih k (by simpa using hk)]
      rw [show (k + 1) * 3 = k * 3 + 1 + 1 + 1 by omega]
      rfl
/-- Block r is a row of these versions, and no more. -/
def RowX (w : World) (r : Nat) (ps : List (Vn × Value)) : Prop := w.heap[r]? = some (.cells (vcl ps).toArray 43 (0, 0))
theorem RowX.set {w : World} {r : Nat} {ps : List (Vn × Value)} (h : RowX w r ps) (k : Nat) (hk : k < ps.length) (x : Vn) (u : Value) : RowX (three15 w r (k * 3) (.int .u64 x.r) (.int .u64 x.q) u) r (ps.set k (x, u)) := by
  have := blkV_set (blkV_set (blkV_set h (k * 3) (.int .u64 x.r)) (k * 3 + 1) (.int .u64 x.q)) (k * 3 + 2) u
  unfold RowX three15
  rw [this, vcl_set ps k hk]
  simp
theorem RowX.own {w : World} {r B : Nat} {ps : List (Vn × Value)} (h : RowX w r ps) (hB : B ≤ r) (hl : ps.length ≤ 100000) : VOw 43 B w (.slice (some ⟨r, 0, none⟩) ps.length ps.length) ps :=
  ⟨vcl_len ps, .inr ⟨r, ps.length, _, rfl, hB, h, Nat.le_refl _, by unfold maxLen; omega, by simp [vcl_len], by rw [← vcl_len]; simp⟩⟩
theorem made_vcl (n : Nat) : (madeCells (#[.int .u64 0, .int .u64 0, .slice none 0 0] : Array Value) (n * 3)).toList = vcl (List.replicate n (vn0, .slice none 0 0)) := by
  refine List.ext_getElem? (fun m => ?_)
  have hl : (vcl (List.replicate n ((vn0, .slice none 0 0) : Vn × Value))).length = n * 3 := by rw [vcl_len, List.length_replicate]
  by_cases hm : m < n * 3
  · have hd : m = m / 3 * 3 + m % 3 := by omega
    have h1 : (madeCells (#[.int .u64 0, .int .u64 0, .slice none 0 0] : Array Value) (n * 3)).toList[m]? = some ((#[.int .u64 0, .int .u64 0, .slice none 0 0] : Array Value)[m % 3]!) := by
      unfold madeCells
      simp [hm]
    rw [h1]
    have h2 := vcl_at (List.replicate n ((vn0, .slice none 0 0) : Vn × Value)) (m / 3) (m % 3) (by rw [List.length_replicate]; omega) (Nat.mod_lt _ (by decide))
    rw [← hd] at h2
    rw [h2]
    have h3 : m % 3 < 3 := Nat.mod_lt _ (by decide)
    simp only [List.getElem_replicate, vn0]
    match m % 3, h3 with
    | 0, _ | 1, _ | 2, _ => rfl
  · rw [List.getElem?_eq_none (by rw [Array.length_toList, size_madeCells]; omega), List.getElem?_eq_none (by rw [hl]; omega)]
/-- What List tells: a row of the call's own, the data, too. -/
def ListEndV (w : World) (l : List Vn) (e : Ending) (w' : World) : Prop :=
  ∃ r ps, e = .returned (.slice (some ⟨r, 0, none⟩) ps.length ps.length) ∧ ps.map Prod.fst = l ∧ w.heap.size ≤ r ∧ RowX w' r ps ∧ (∀ p ∈ ps, Own w' (fun k => w.heap.size ≤ k ∧ k ≠ r) p.2 p.1.d) ∧ Kept NoB w w'
def LsRel (w : World) (r : Nat) (l : List Vn) (iv : Value) (wr : World) : Prop :=
  ∃ (k : Nat) (ps : List (Vn × Value)), k ≤ l.length ∧ iv = .int .i64 k ∧ ps.length = l.length ∧ RowX wr r ps ∧ (∀ j, j < k → ∃ u, ps[j]? = some (nthV l j, u) ∧ Own wr (fun i => w.heap.size ≤ i ∧ i ≠ r) u (nthV l j).d) ∧ Kept NoB w wr
set_option maxRecDepth 100000 in
set_option maxHeartbeats 1000000 in
theorem VList_any (w : World) (x v : Value) (l : List Vn) (F : Nat → Prop) (ht : TellsV w x v) (h : VsAt w F v l) (hasc : Asc l) (hl : l.length ≤ 100000) : Calls Try.prog 25 #[x] w (ListEndV w l) := by
  obtain ⟨i0, hi0, hz0, hz1, hz2⟩ := info_parts info_vers
  obtain ⟨a, c, rfl⟩ := h.form
  have HL := Lib.hid (VLen_any w x _ l F ht h)
  have HT := Lib.hid ht
  have HV := Lib.hid h
  have HA := Lib.hid hasc
  have hll : (l.length : Int) ≤ 100000 := by omega
  clear h ht hasc
  go_enter Try.func25, Try.ntmps25
  go_wp2_with fail
  refine HL.out.mono ?_
  rintro e wz ⟨rfl, rfl⟩
  go_wp2_with (at_make; refine wpList_make_full _ rfl (.tmp 7) (.tmp 7) 50 rfl w.heap.size 43 i0 _ 3 Try.underlying50 hi0 hz0 hz1 .i64 .i64 _ _ l.length rfl rfl rfl rfl (by rw [hz2]; omega) (by unfold maxLen; omega) (Nat.le_refl _) ?_; intro w2 hown hgrow)
  have hrow : RowX w2 w.heap.size (List.replicate l.length (vn0, .slice none 0 0)) := by
    rcases hown.2 with ⟨hv, _⟩ | ⟨g, cap, cur, hv, hb, hr, hc, hm, hs, ht⟩
    · cases hv
    · injection hv with hv hn hcap
      injection hv with hv
      injection hv with hv _ _
      subst hv hcap
      unfold RowX
      rw [hr]
      have e : cur.toList = vcl (List.replicate l.length (vn0, .slice none 0 0)) := by
        have h1 := List.take_of_length_le (l := cur.toList) (i := l.length * 3) (by simp [hs])
        exact (h1.symm.trans ht).trans (made_vcl l.length)
      rw [← e]
  have HR := Lib.hid hrow
  have HK := Lib.hid ((Kept.refl NoB w).grown hgrow (fun k hk => by cases hk))
  clear hown hgrow hrow
  have HT2 := Lib.hid (HT.out _ HK.out)
  go_wp2_with fail
  refine HT2.out.mono ?_
  rintro e w3 ⟨rfl, rfl⟩
  go_wp2_with fail
  go_loopw [4, 5, 12] (fun _ _ i wr => LsRel w w.heap.size l i wr) (fun _ _ i _ => l.length - (RowKit.intOf i).toNat)
  case atStart => exact ⟨0, _, Nat.zero_le _, rfl, List.length_replicate, HR.out, fun j h => absurd h (by omega), HK.out⟩
  case round =>
    obtain ⟨k, ps, hk, rfl, hpl, hrow, hdat, hK⟩ := hrel
    have hk00 : (0 : Int) ≤ (k : Int) := by omega
    have HKR := Lib.hid hK
    have HD := Lib.hid hdat
    have HRW := Lib.hid hrow
    have HPL := Lib.hid hpl
    have hvr := HV.out.no hK
    by_cases hlt : k < l.length
    · have hk1 : (k : Int) < (l.length : Int) := by omega
      obtain ⟨b, o, rfl, hF, hb, u, e0, e1, e2, hd⟩ := hvr.at_ hlt
      have hdl := (HA.out.at_ hlt).2.2.2.2
      obtain ⟨y, hy⟩ : ∃ y, y = nthV l k := ⟨_, rfl⟩
      rw [← hy] at e0 e1 hd hdl
      have HY := Lib.hid hy
      obtain ⟨y0, y1, y2⟩ := y
      simp only at e0 e1 hd hdl
      have hK2 := (Kept.refl NoB wr).alloc (.cells #[.int .u64 y0, .int .u64 y1, u] 43)
      have HC := Lib.hid (VCopyOf_any (wr.alloc (.cells #[.int .u64 y0, .int .u64 y1, u] 43)) (.agg #[.int .u64 y0, .int .u64 y1, u]) ⟨y0, y1, y2⟩ F ⟨u, rfl, hd.kept hK2 (fun _ _ h => h)⟩ (by show y2.length ≤ 1000000; omega))
      obtain ⟨ua, uc, rfl, _⟩ := hd
      obtain ⟨d0, d1, d2⟩ := cells3v (heap_alloc_new wr (.cells #[.int .u64 y0, .int .u64 y1, .slice ua y2.length uc] 43))
      have HK2 := Lib.hid (HKR.out.trans hK2 (fun _ _ h => h))
      have hrl := heap_lt hrow
      have HS2 : Hid (w.heap.size < (wr.alloc (.cells #[.int .u64 y0, .int .u64 y1, .slice ua y2.length uc] 43)).heap.size ∧ (wr.alloc (.cells #[.int .u64 y0, .int .u64 y1, .slice ua y2.length uc] 43)).heap.size = wr.heap.size + 1) := Lib.hid (by have := hK2.size; simp; omega)
      have HR2 := Lib.hid (hK2.heap (fun h => h) hrow)
      clear hdat hrow hK hvr hy hK2 hdl hpl hrl
      go_wp2_with fail
      refine HC.out.mono ?_
      rintro e w4 ⟨v3, rfl, hv3, hk3⟩
      have HK3 := Lib.hid (HK2.out.trans hk3 (fun _ _ h => h))
      have HR3 : Hid (RowX w4 w.heap.size ps) := Lib.hid (hk3.heap (fun h => h) HR2.out)
      obtain ⟨u, rfl, hu⟩ := hv3
      obtain ⟨va, vc, rfl⟩ := own_form hu.2.1
      have HU := Lib.hid (hu.mono (G := fun i => wr.heap.size < i) (fun i _ h => by have := HS2.out; omega))
      have HKN := Lib.hid ((Kept.refl NoB wr).alloc (.cells #[.int .u64 y0, .int .u64 y1, .slice ua y2.length uc] 43) |>.trans hk3 (fun _ _ h => h))
      have hw4 : w.heap.size < w4.heap.size := by have := hk3.size; have := HS2.out; omega
      clear hk3 hu d0 d1 d2
      obtain ⟨q0, hq0⟩ : ∃ q, w4.cell? ⟨w.heap.size, k * 3, none⟩ = some q := ⟨_, (cell_of_row _ _ _ _ _ _ HR3.out).trans (by rw [List.getElem?_toArray, List.getElem?_eq_getElem (by rw [vcl_len]; have := HPL.out; omega)])⟩
      obtain ⟨q1, hq1⟩ : ∃ q, w4.cell? ⟨w.heap.size, k * 3 + 1, none⟩ = some q := ⟨_, (cell_of_row _ _ _ _ _ _ HR3.out).trans (by rw [List.getElem?_toArray, List.getElem?_eq_getElem (by rw [vcl_len]; have := HPL.out; omega)])⟩
      obtain ⟨q2, hq2⟩ : ∃ q, w4.cell? ⟨w.heap.size, k * 3 + 2, none⟩ = some q := ⟨_, (cell_of_row _ _ _ _ _ _ HR3.out).trans (by rw [List.getElem?_toArray, List.getElem?_eq_getElem (by rw [vcl_len]; have := HPL.out; omega)])⟩
      have z := blkV_frozen HR3.out
      go_wp2
      have hS := (Kept.refl (fun i => i = w.heap.size) w4).three15 (b := w.heap.size) (.inl rfl) (k * 3) (.int .u64 y0) (.int .u64 y1) (.slice va y2.length vc)
      have hR := HR3.out.set k (by have := HPL.out; omega) ⟨y0, y1, y2⟩ (.slice va y2.length vc)
      refine ⟨⟨k + 1, ps.set k (⟨y0, y1, y2⟩, .slice va y2.length vc), by omega, by go_num, by rw [List.length_set]; exact HPL.out, hR, fun j hj => ?_, HK3.out.three15 (.inr (Nat.le_refl _)) _ _ _ _⟩, by simp [RowKit.intOf]; omega⟩
      by_cases e : j = k
      · subst e
        refine ⟨_, by rw [List.getElem?_set_self (by have := HPL.out; omega), HY.out], ?_⟩
        rw [← HY.out]
        refine (HU.out.mono (fun i hi h => ?_)).kept hS (fun i h e => h.2 e)
        have := HS2.out
        omega
      · obtain ⟨u', hu1, hu2⟩ := HD.out j (by omega)
        exact ⟨u', by rw [List.getElem?_set_ne (by omega)]; exact hu1, (hu2.kept HKN.out (fun _ _ h => h)).kept hS (fun i h e => h.2 e)⟩
    · obtain rfl : k = l.length := by omega
      clear hdat hrow hK hvr
      go_wp2
      go_ret
      have hfst : ps.map Prod.fst = l := by
        refine List.ext_getElem (by rw [List.length_map]; exact HPL.out) (fun j h1 h2 => ?_)
        obtain ⟨u', hu1, _⟩ := HD.out j h2
        rw [List.getElem_map]
        have := List.getElem?_eq_some_iff.1 hu1
        obtain ⟨_, h4⟩ := this
        rw [h4, ← nthV_at h2]
      refine ⟨w.heap.size, ps, by rw [HPL.out]; rfl, hfst, Nat.le_refl _, HRW.out, fun p hp => ?_, HKR.out⟩
      obtain ⟨j, hj, rfl⟩ := List.getElem_of_mem hp
      obtain ⟨u', hu1, hu2⟩ := HD.out j (by rw [← HPL.out]; exact hj)
      have := List.getElem?_eq_some_iff.1 hu1
      obtain ⟨_, h4⟩ := this
      rw [h4]
      exact hu2
end Go.Proofs.Ytnmclhgljpcjcaa
