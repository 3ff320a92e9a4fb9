/-
  Layer 29: the place of a name; Find of the package, and the chapter's.
-/
import Derived.Test.YtokafgleejcbgaaDoorDirU
namespace Go.Proofs.YtokafgleejcbgaaDoor
open Go.RowKit
set_option linter.unusedVariables false

/-- The place of the first entry of which p tells true. -/
def idxE (p : En → Bool) (l : List En) : Int := if l.any p = true then (l.findIdx p : Int) else -1
theorem idxE_hit {p : En → Bool} {l : List En} {k : Nat} (hk : k < l.length) (h : p (eth l k) = true) (hn : ∀ j, j < k → p (eth l j) = false) : idxE p l = (k : Int) := by
  unfold idxE
  rw [if_pos (List.any_eq_true.2 ⟨_, eth_mem hk, h⟩)]
  have : l.findIdx p = k := (List.findIdx_eq hk).2 ⟨by rw [← eth_eq hk]; exact h, fun j hj => by rw [← eth_eq (by omega)]; exact hn j hj⟩
  rw [this]
theorem any_none29 {p : En → Bool} {l : List En} (hn : ∀ j, j < l.length → p (eth l j) = false) : l.any p = false := by
  rw [List.any_eq_false]
  intro x hx
  obtain ⟨j, hj, rfl⟩ := List.getElem_of_mem hx
  have := hn j hj
  rw [eth_eq hj] at this
  simp [this]
theorem idxE_none {p : En → Bool} {l : List En} (hn : ∀ j, j < l.length → p (eth l j) = false) : idxE p l = -1 := by
  unfold idxE
  rw [any_none29 hn]
  rfl
/-- A function literal that tells p of an entry, in any later world. -/
def TellsE (f : FuncId) (caps : Array Value) (l : List En) (p : En → Bool) (w : World) : Prop :=
  Enters29 f ∧ ∀ x w', x ∈ l → Kept NoB w w' → Calls Tryd.prog f (#[.agg #[.string ⟨x.1.toArray⟩, .int .i64 x.2]] ++ caps) w' fun e w'' => e = .returned (.bool (p x)) ∧ Kept NoB w' w''
set_option maxRecDepth 100000 in
set_option maxHeartbeats 4000000 in
theorem IndexE_any (v : Value) (l : List En) (f : FuncId) (caps : Array Value) (p : En → Bool) (F : Nat → Prop) (w : World) (h : ESl w F v l) (hp : TellsE f caps l p w) :
    Calls Tryd.prog 21 #[v, .func (.func f) #[] caps] w fun e w' => e = .returned (.int .i64 (idxE p l)) ∧ Kept NoB w w' := by
  obtain ⟨a, cap, rfl, hl⟩ := h.form
  unfold maxLen at hl
  have H := Lib.hid h
  have HP := Lib.hid hp.2
  have hent : ∀ (args : Array Value) (w : World), Sem.run Tryd.prog (callFunc f args) w = .ok (.enter f args) w := hp.1
  obtain ⟨R, hR⟩ : ∃ R, R = idxE p l := ⟨_, rfl⟩
  rw [← hR]
  have HR := Lib.hid hR
  clear h hp hR
  go_enter Tryd.func21, Tryd.ntmps21
  go_wp2
  go_loopw [8] (fun i wr => ∃ k : Nat, i = .int .i64 k ∧ k ≤ l.length ∧ (∀ j, j < k → p (eth l j) = false) ∧ Kept NoB w wr) (fun i _ => l.length - (RowKit.intOf i).toNat)
  case atStart => exact ⟨0, rfl, Nat.zero_le _, (fun j hj => by omega), Kept.refl _ _⟩
  case round =>
    obtain ⟨k, rfl, hk, hno, hkk⟩ := hrel
    have HN := Lib.hid hno
    have HK := Lib.hid hkk
    clear hno hkk
    by_cases hlt : k < l.length
    · obtain ⟨b, o, rfl, _, _, e0, e1⟩ := (H.out.no HK.out).at_ hlt
      have HA : Hid (eth l k ∈ l) := Lib.hid (eth_mem hlt)
      have hk1 : (k : Int) < (l.length : Int) := by omega
      have hk0 : (0 : Int) ≤ (k : Int) := by omega
      obtain ⟨y, hy⟩ : ∃ y, y = eth l k := ⟨_, rfl⟩
      rw [← hy] at e0 e1 HA
      have HC := Lib.hid (HP.out y wr HA.out HK.out)
      have HY := Lib.hid hy
      have HLT := Lib.hid hlt
      clear hy
      cases hpy : p y with
      | true =>
        rw [hpy] at HC
        have HPY : Hid (R = (k : Int)) := Lib.hid (by rw [HR.out]; exact idxE_hit HLT.out (by rw [← HY.out]; exact hpy) HN.out)
        clear hpy
        go_wp2_with fail
        refine HC.out.mono ?_
        rintro e w2 ⟨rfl, hk2⟩
        have HK2 := Lib.hid (HK.out.trans hk2 (fun _ _ h => h))
        clear hk2
        go_wp2
        go_ret
        exact ⟨by rw [HPY.out]; rfl, HK2.out⟩
      | false =>
        rw [hpy] at HC
        have HPY : Hid (p (eth l k) = false) := Lib.hid (by rw [← HY.out]; exact hpy)
        clear hpy
        go_wp2_with fail
        refine HC.out.mono ?_
        rintro e w2 ⟨rfl, hk2⟩
        have HK2 := Lib.hid (HK.out.trans hk2 (fun _ _ h => h))
        clear hk2
        go_wp2
        exact ⟨⟨k + 1, by go_num, by omega, fun j hj => by
          rcases Nat.lt_or_ge j k with h | h
          · exact HN.out j h
          · obtain rfl : j = k := by omega
            exact HPY.out, HK2.out⟩, by simp [RowKit.intOf]; omega⟩
    · obtain rfl : k = l.length := by omega
      have HRR : Hid (R = -1) := Lib.hid (by rw [HR.out]; exact idxE_none HN.out)
      go_wp2
      go_ret
      exact ⟨by rw [HRR.out]; rfl, HK.out⟩
theorem ent_place : Enters29 30 := fun args w => by kernel_rfl
/-- Has an entry that name? -/
def nmIs (n : List UInt8) (x : En) : Bool := x.1 == n
theorem place1_any (x : List UInt8) (y : Int) (n : List UInt8) (bx : Nat) (w : World) (h : w.heap[bx]? = some (.cells #[.string ⟨n.toArray⟩] 9 (0, 0))) :
    Calls Tryd.prog 30 #[.agg #[.string ⟨x.toArray⟩, .int .i64 y], .pointer (some ⟨bx, 0, none⟩)] w fun e w' => e = .returned (.bool (nmIs n (x, y))) ∧ Kept NoB w w' := by
  have hk := (Kept.refl NoB w).alloc (.cells #[.string ⟨x.toArray⟩, .int .i64 y] 32)
  have HK := Lib.hid hk
  have hb := hk.heap (fun h => h) h
  obtain ⟨c0, c1⟩ := cell2_29 (heap_alloc_new w (.cells #[.string ⟨x.toArray⟩, .int .i64 y] 32))
  have d0 := cell_of_row _ _ 0 _ _ _ hb
  have d0 : (w.alloc (.cells #[.string ⟨x.toArray⟩, .int .i64 y] 32)).cell? ⟨bx, 0, none⟩ = some (.string ⟨n.toArray⟩) := d0
  have HR : Hid (nmIs n (x, y) = ((⟨x.toArray⟩ : ByteArray).toList == (⟨n.toArray⟩ : ByteArray).toList)) := Lib.hid (by rw [toL29, toL29]; rfl)
  obtain ⟨R, hR⟩ : ∃ R, R = nmIs n (x, y) := ⟨_, rfl⟩
  rw [← hR] at HR ⊢
  obtain ⟨sx, hsx⟩ : ∃ s : ByteArray, s = ⟨x.toArray⟩ := ⟨_, rfl⟩
  obtain ⟨sn, hsn⟩ : ∃ s : ByteArray, s = ⟨n.toArray⟩ := ⟨_, rfl⟩
  rw [← hsx] at HR HK c0 c1 d0 ⊢
  rw [← hsn] at HR d0
  clear hk hb h hR hsx hsn
  go_enter Tryd.func30, Tryd.ntmps30
  go_wp2
  go_ret
  exact ⟨by rw [HR.out]; rfl, HK.out⟩
theorem place_any (v : Value) (l : List En) (n : List UInt8) (F : Nat → Prop) (w : World) (h : ESl w F v l) :
    Calls Tryd.prog 20 #[v, .string ⟨n.toArray⟩] w fun e w' => e = .returned (.int .i64 (idxE (nmIs n) l)) ∧ Kept NoB w w' := by
  have hk := (Kept.refl NoB w).alloc (.cells #[.string ⟨n.toArray⟩] 9)
  have HK := Lib.hid hk
  have hb := heap_alloc_new w (.cells #[.string ⟨n.toArray⟩] 9)
  have HI := Lib.hid (IndexE_any v l 30 #[.pointer (some ⟨w.heap.size, 0, none⟩)] (nmIs n) F _ (h.no hk) ⟨ent_place, fun x w' _ hk' => place1_any x.1 x.2 n w.heap.size w' (hk'.heap (fun h => h) hb)⟩)
  obtain ⟨R, hR⟩ : ∃ R, R = idxE (nmIs n) l := ⟨_, rfl⟩
  rw [← hR] at HI ⊢
  obtain ⟨sn, hsn⟩ : ∃ s : ByteArray, s = ⟨n.toArray⟩ := ⟨_, rfl⟩
  rw [← hsn] at HI HK ⊢
  clear h hk hb hR hsn
  go_enter Tryd.func20, Tryd.ntmps20
  go_wp2_with (go_at_call 21; refine HI.out.mono ?_; rintro e w2 ⟨rfl, hk2⟩; have HK2 := Lib.hid (HK.out.trans hk2 (fun _ _ h => h)); clear hk2)
  go_ret
  exact ⟨rfl, HK2.out⟩
/-- What Find tells. -/
def fndE (n : List UInt8) (l : List En) : Int × Bool := if l.any (nmIs n) = true then ((eth l (l.findIdx (nmIs n))).2, true) else (0, false)
theorem fndE_hit {n : List UInt8} {l : List En} {k : Nat} (hk : k < l.length) (h : nmIs n (eth l k) = true) (hn : ∀ j, j < k → nmIs n (eth l j) = false) : fndE n l = ((eth l k).2, true) := by
  unfold fndE
  rw [if_pos (List.any_eq_true.2 ⟨_, eth_mem hk, h⟩)]
  have : l.findIdx (nmIs n) = k := (List.findIdx_eq hk).2 ⟨by rw [← eth_eq hk]; exact h, fun j hj => by rw [← eth_eq (by omega)]; exact hn j hj⟩
  rw [this]
theorem vFind29_any (v : Value) (l : List En) (n : List UInt8) (F : Nat → Prop) (w : World) (h : ESl w F v l) :
    Calls Tryd.prog 11 #[v, .string ⟨n.toArray⟩] w fun e w' => e = .returned (.tuple #[.int .i64 (fndE n l).1, .bool (fndE n l).2]) ∧ Kept NoB w w' := by
  have HPL := Lib.hid (place_any v l n F w h)
  obtain ⟨a, cap, rfl, hl⟩ := h.form
  unfold maxLen at hl
  have H := Lib.hid h
  obtain ⟨sn, hsn⟩ : ∃ s : ByteArray, s = ⟨n.toArray⟩ := ⟨_, rfl⟩
  rw [← hsn] at HPL ⊢
  clear h hsn
  by_cases ha : l.any (nmIs n) = true
  · have hi : idxE (nmIs n) l = (l.findIdx (nmIs n) : Int) := by unfold idxE; rw [if_pos ha]
    have hf : fndE n l = ((eth l (l.findIdx (nmIs n))).2, true) := by unfold fndE; rw [if_pos ha]
    have hlt : l.findIdx (nmIs n) < l.length := List.findIdx_lt_length_of_exists (by simpa using List.any_eq_true.1 ha)
    rw [hi] at HPL
    rw [hf]
    obtain ⟨k, hk⟩ : ∃ k, k = l.findIdx (nmIs n) := ⟨_, rfl⟩
    rw [← hk] at HPL hlt ⊢
    have hk1 : (k : Int) < (l.length : Int) := by omega
    have hk0 : (0 : Int) ≤ (k : Int) := by omega
    have d0 : decide ((k : Int) < 0) = false := decide_eq_false (by omega)
    have HLT := Lib.hid hlt
    obtain ⟨y, hy⟩ : ∃ y, y = (eth l k).2 := ⟨_, rfl⟩
    rw [← hy]
    have HY := Lib.hid hy
    clear hi hf ha hk hlt hy
    go_enter Tryd.func11, Tryd.ntmps11
    go_wp2_with (go_at_call 20; refine HPL.out.mono ?_; rintro e w2 ⟨rfl, hk2⟩; have HK2 := Lib.hid hk2; obtain ⟨b, o, ho, _, _, e0, e1⟩ := (H.out.no hk2).at_ HLT.out; subst ho; rw [← HY.out] at e1; clear hk2)
    exact bodyPost_ret (v := .tuple #[.int .i64 y, .bool true]) (by simp [results, Tryd.results11, go_sem]) rfl ⟨rfl, HK2.out⟩
  · have hi : idxE (nmIs n) l = -1 := by unfold idxE; rw [if_neg ha]
    have hf : fndE n l = (0, false) := by unfold fndE; rw [if_neg ha]
    rw [hi] at HPL
    rw [hf]
    clear hi hf ha
    go_enter Tryd.func11, Tryd.ntmps11
    go_wp2_with (go_at_call 20; refine HPL.out.mono ?_; rintro e w2 ⟨rfl, hk2⟩; have HK2 := Lib.hid hk2; clear hk2)
    exact bodyPost_ret (v := .tuple #[.int .i64 0, .bool false]) (by simp [results, Tryd.results11, go_sem]) rfl ⟨rfl, HK2.out⟩
set_option maxRecDepth 100000 in
set_option maxHeartbeats 4000000 in
theorem rFind29_any (v : Value) (l : List En) (n : List UInt8) (F : Nat → Prop) (w : World) (h : ESl w F v l) :
    Calls Tryd.prog 12 #[v, .string ⟨n.toArray⟩] w fun e w' => e = .returned (.tuple #[.int .i64 (fndE n l).1, .bool (fndE n l).2]) ∧ Kept NoB w w' := by
  obtain ⟨a, cap, rfl, hl⟩ := h.form
  unfold maxLen at hl
  have H := Lib.hid h
  obtain ⟨R, hR⟩ : ∃ R, R = fndE n l := ⟨_, rfl⟩
  rw [← hR]
  have HR := Lib.hid hR
  obtain ⟨sn, hsn⟩ : ∃ s : ByteArray, s = ⟨n.toArray⟩ := ⟨_, rfl⟩
  rw [← hsn]
  have HSN := Lib.hid hsn
  clear h hR hsn
  go_enter Tryd.func12, Tryd.ntmps12
  go_wp2
  go_loopw [6] (fun i wr => ∃ k : Nat, i = .int .i64 k ∧ k ≤ l.length ∧ (∀ j, j < k → nmIs n (eth l j) = false) ∧ Kept NoB w wr) (fun i _ => l.length - (RowKit.intOf i).toNat)
  case atStart => exact ⟨0, rfl, Nat.zero_le _, (fun j hj => by omega), Kept.refl _ _⟩
  case round =>
    obtain ⟨k, rfl, hk, hno, hkk⟩ := hrel
    have HN := Lib.hid hno
    have HK := Lib.hid hkk
    clear hno hkk
    by_cases hlt : k < l.length
    · obtain ⟨b, o, rfl, _, _, e0, e1⟩ := (H.out.no HK.out).at_ hlt
      have hk1 : (k : Int) < (l.length : Int) := by omega
      have hk0 : (0 : Int) ≤ (k : Int) := by omega
      obtain ⟨y, hy⟩ : ∃ y, y = eth l k := ⟨_, rfl⟩
      rw [← hy] at e0 e1
      have HY := Lib.hid hy
      have HLT := Lib.hid hlt
      obtain ⟨x, z⟩ := y
      simp only at e0 e1
      have hcmp : nmIs n (x, z) = ((⟨x.toArray⟩ : ByteArray).toList == sn.toList) := by rw [HSN.out, toL29, toL29]; rfl
      obtain ⟨sx, hsx⟩ : ∃ s : ByteArray, s = ⟨x.toArray⟩ := ⟨_, rfl⟩
      rw [← hsx] at e0 hcmp
      clear hy hsx
      cases hpy : nmIs n (x, z) with
      | true =>
        have g1 := hcmp.symm.trans hpy
        have HPY : Hid (R = (z, true)) := Lib.hid (by rw [HR.out, fndE_hit HLT.out (by rw [← HY.out]; exact hpy) HN.out, ← HY.out])
        clear hpy hcmp
        go_wp2_with fail
        exact bodyPost_ret (v := .tuple #[.int .i64 z, .bool true]) (by simp [results, Tryd.results12, go_sem]) rfl ⟨by rw [HPY.out], HK.out⟩
      | false =>
        have g1 := hcmp.symm.trans hpy
        have HPY : Hid (nmIs n (eth l k) = false) := Lib.hid (by rw [← HY.out]; exact hpy)
        clear hpy hcmp
        go_wp2_with fail
        exact ⟨⟨k + 1, by go_num, by omega, fun j hj => by
          rcases Nat.lt_or_ge j k with h | h
          · exact HN.out j h
          · obtain rfl : j = k := by omega
            exact HPY.out, HK.out⟩, by simp [RowKit.intOf]; omega⟩
    · obtain rfl : k = l.length := by omega
      have HRR : Hid (R = (0, false)) := Lib.hid (by rw [HR.out]; unfold fndE; rw [any_none29 HN.out]; rfl)
      go_wp2
      exact bodyPost_ret (v := .tuple #[.int .i64 0, .bool false]) (by simp [results, Tryd.results12, go_sem]) rfl ⟨by rw [HRR.out], HK.out⟩
end Go.Proofs.YtokafgleejcbgaaDoor
