/-
  Layer 30: all of a block's data: Whole of the package, and the chapter's.
-/
import Derived.Test.YtiifkcjngajegaaBit1
import Derived.Test.YtiifkcjngajegaaIno4
namespace Go.Proofs.Ytiifkcjngajegaa
open Go.RowKit
set_option linter.unusedVariables false

/-- All of a block's data. -/
def wh30 (l : List Int) : List Int := l.take 64 ++ List.replicate (64 - l.length) 0
theorem wh30_len (l : List Int) : (wh30 l).length = 64 := by unfold wh30; rw [List.length_append, List.length_take, List.length_replicate]; omega
theorem wh30_isB {l : List Int} (h : IsB l) : IsB (wh30 l) := by
  unfold wh30
  intro x hx
  rcases List.mem_append.1 hx with h1 | h1
  · exact h x (List.mem_of_mem_take h1)
  · rw [List.eq_of_mem_replicate h1]; omega
theorem splice_wh30 (l : List Int) : splice (List.replicate 64 (Value.int .u8 0)) 0 ((l.take 64).map (Value.int .u8)) = (wh30 l).map (Value.int .u8) := by
  unfold splice wh30
  simp only [List.take_zero, List.nil_append, List.map_append, List.map_take, List.length_take, List.length_map, Nat.zero_add, List.map_replicate, List.drop_replicate]
  congr 2
  omega
theorem BSl.at30 {w : World} {F : Nat → Prop} {a : Option Addr} {n c : Nat} {l : List Int} (h : BSl w F (.slice a n c) l) {j : Nat} (hj : j < l.length) : ∃ b o, a = some ⟨b, o, none⟩ ∧ F b ∧ b < w.heap.size ∧ w.cell? ⟨b, o + j, none⟩ = some (.int .u8 (l.getD j 0)) := by
  obtain ⟨a', c', he, _, _, _, hr⟩ := h
  injection he with h1 h2 h3
  subst h1
  obtain ⟨b, o, rfl, hF, hb, hcell⟩ := hr.2 (by omega)
  exact ⟨b, o, rfl, hF, hb, hcell j hj⟩
theorem cat_one30 (w : World) (x : Int) (h0 : 0 ≤ x) (h1 : x < 256) : BSl (w.alloc (.cells #[.int .u8 x] 5)) (fun _ => True) (.slice (some ⟨w.heap.size, 0, none⟩) 1 1) [x] :=
  (own_one28 w x h0 h1 0 (Nat.zero_le _)).bsl.mono (fun _ _ _ => trivial)
set_option maxRecDepth 100000 in
theorem vWhole_any (v : Value) (l : List Int) (F : Nat → Prop) (w : World) (h : BSl w F v l) :
    Calls Try.prog 37 #[v] w fun e w' => ∃ v', e = .returned v' ∧ BSl w' (fun k => w.heap.size ≤ k) v' (wh30 l) ∧ Kept NoB w w' := by
  obtain ⟨i0, hi0, hz0, hz1, hz2⟩ := info_parts info_u8
  have hIB := h.isB
  have hmk : ∀ W : World, (Instr.makeSlice 22 (.int .i64 64) (.int .i64 64)).run Try.prog W = .ok (.slice (some ⟨W.heap.size, 0, none⟩) 64 64) (W.alloc (.cells (Array.replicate 64 (Value.int .u8 0)) 5)) := fun W => by
    have hr := run_make (P := Try.prog) W 22 5 i0 _ Try.underlying22 hi0 hz0 .i64 .i64 64 64 (by omega) (by omega) (by rw [hz2]; omega) (by omega)
    simp only [hz1, Nat.mul_one] at hr
    have e : (Value.int IntKind.u8 0).cells = #[Value.int .u8 0] := rfl
    rw [e, made_zero] at hr
    exact hr
  obtain ⟨Z, hZ⟩ : ∃ Z, Z = Array.replicate 64 (Value.int .u8 0) := ⟨_, rfl⟩
  have hZL : Z = (List.replicate 64 (Value.int .u8 0)).toArray := by rw [hZ, List.toArray_replicate]
  obtain ⟨ZL, hZZ⟩ : ∃ ZL, ZL = List.replicate 64 (Value.int .u8 0) := ⟨_, rfl⟩
  rw [← hZZ] at hZL
  rw [← hZ] at hmk
  obtain ⟨a, cap, rfl, hc, hcm, hnn, hr⟩ := h
  have HR := Lib.hid hr
  obtain ⟨cs, hcs⟩ : ∃ cs, cs = (l.take 64).map (Value.int .u8) := ⟨_, rfl⟩
  have HLL : Hid (cs.length = Nat.min l.length 64) := Lib.hid (by rw [hcs, List.length_map, List.length_take]; exact Nat.min_comm _ _)
  have HFT : Hid (0 + cs.length ≤ ZL.length) := Lib.hid (by rw [hcs, List.length_map, List.length_take, hZZ, List.length_replicate]; omega)
  have HO : Hid (∀ v ∈ cs, v.oneCell' = true) := Lib.hid (by rw [hcs]; exact isB_one)
  have hgz := heap_alloc_new w (.cells Z 5)
  have HGZ : Hid ((w.alloc (.cells Z 5)).heap[w.heap.size]? = some (.cells ZL.toArray 5 (0, 0))) := Lib.hid (by rw [hgz, hZL])
  have HBL : Hid (Below w.heap.size w (w.alloc (.cells Z 5))) := Lib.hid ((Below.refl _ _).alloc (Nat.le_refl _) _)
  have HSRC : Hid (0 < cs.length → ∃ ad, a = some ad ∧ ∀ j u, cs[j]? = some u → (w.alloc (.cells Z 5)).cell? (ad.add j) = some u) := Lib.hid (fun h0 => by
    rw [hcs, List.length_map, List.length_take] at h0
    obtain ⟨b, o, rfl, _, hb, hcell⟩ := HR.out.2 (by omega)
    refine ⟨_, rfl, fun j u hu => ?_⟩
    rw [hcs] at hu
    have hj : j < l.length := by
      rcases Nat.lt_or_ge j l.length with h | h
      · exact h
      · rw [List.getElem?_eq_none (by rw [List.length_map, List.length_take]; omega)] at hu; cases hu
    have hj2 : j < 64 := by
      rcases Nat.lt_or_ge j 64 with h | h
      · exact h
      · rw [List.getElem?_eq_none (by rw [List.length_map, List.length_take]; omega)] at hu; cases hu
    rw [add27]
    refine cell_alloc ?_ _
    rw [hcell j hj]
    simp [hj2, List.getElem?_eq_getElem hj] at hu ⊢
    exact hu)
  have HWB : Hid (∀ w' : World, w'.heap[w.heap.size]? = some (.cells (splice ZL 0 cs).toArray 5 (0, 0)) → BSl w' (fun k => w.heap.size ≤ k) (bv w.heap.size 64) (wh30 l)) := Lib.hid (fun w' hw => by
    have hb : BytB w' w.heap.size (wh30 l) := ⟨wh30_isB hIB, by rw [hw, hcs, hZZ, splice_wh30]⟩
    have := bytB_bsl hb (Nat.le_refl _) (by rw [wh30_len]; omega)
    rwa [wh30_len] at this)
  have hsz8 : (Try.prog.info? 5).map (·.size) = some 1 := by rw [hi0]; show some i0.size = some 1; rw [hz1]
  have HSZ8 := Lib.hid hsz8
  clear hr hnn hgz hsz8 hi0 hz0 hz1 hz2 hcs hIB hZ hZL hZZ
  go_enter Try.func37, Try.ntmps37
  go_wp2_with (with_reducible refine wpList_copy_splice rfl (.tmp 5) (.tmp 6) 22 22 rfl 5 Try.underlying22 HSZ8.out (some ⟨w.heap.size, 0, none⟩) a 64 64 l.length cap rfl rfl w.heap.size 0 ZL 5 HGZ.out cs HLL.out (fun h => ⟨rfl, HSRC.out h⟩) HFT.out HO.out w.heap.size w HBL.out (Nat.le_refl _) ?_; intro w3 hg3 hb3; have HB3 := Lib.hid (HWB.out w3 hg3.out); have HK3 : Hid (Kept NoB w w3) := Lib.hid ((Kept.ofBelow hb3).mono (fun i h1 h2 => absurd h1 (by omega))); clear hg3 hb3)
  go_ret
  exact ⟨_, rfl, HB3.out, HK3.out⟩
/-- What is laid so far. -/
def wpr30 (l : List Int) (k : Nat) : List Int := l.take k ++ List.replicate (k - l.length) 0
theorem wpr30_len (l : List Int) (k : Nat) : (wpr30 l k).length = k := by unfold wpr30; rw [List.length_append, List.length_take, List.length_replicate]; omega
theorem wpr30_lt {l : List Int} {k : Nat} (h : k < l.length) : wpr30 l (k + 1) = wpr30 l k ++ [l.getD k 0] := by
  unfold wpr30
  rw [show k + 1 - l.length = 0 by omega, show k - l.length = 0 by omega]
  simp only [List.replicate_zero, List.append_nil]
  rw [List.take_succ_eq_append_getElem h, List.getD_eq_getElem?_getD, List.getElem?_eq_getElem h]
  rfl
theorem wpr30_ge {l : List Int} {k : Nat} (h : l.length ≤ k) : wpr30 l (k + 1) = wpr30 l k ++ [0] := by
  unfold wpr30
  rw [List.take_of_length_le (by omega), List.take_of_length_le (by omega), List.append_assoc]
  congr 1
  rw [show k + 1 - l.length = (k - l.length) + 1 by omega, List.replicate_succ']
set_option maxRecDepth 100000 in
theorem rWhole30_any (v : Value) (l : List Int) (F : Nat → Prop) (w : World) (h : BSl w F v l) (hF : ∀ k, F k → k < w.heap.size) :
    Calls Try.prog 38 #[v] w fun e w' => ∃ v', e = .returned v' ∧ BSl w' (fun k => w.heap.size ≤ k) v' (wh30 l) ∧ Kept NoB w w' := by
  obtain ⟨i0, hi0, hz0, hz1, hz2⟩ := info_parts info_u8
  have HB := Lib.hid h
  have hIB := Lib.hid h.isB
  obtain ⟨a, cap, rfl, _⟩ := id h
  have hHF := Lib.hid hF
  clear h hF
  go_enter Try.func38, Try.ntmps38
  go_wp2_with fail
  go_loopw [3, 4] (fun x i wr => ∃ (k : Nat) (b : Option Addr) (c : Nat), k ≤ 64 ∧ i = .int .i64 k ∧ x = .slice b k c ∧ Own wr (fun j => w.heap.size ≤ j) (.slice b k c) (wpr30 l k) ∧ Kept NoB w wr) (fun _ i _ => 64 - (RowKit.intOf i).toNat)
  case atStart => exact ⟨0, none, 0, by omega, rfl, rfl, by have : wpr30 l 0 = [] := by { unfold wpr30; simp }; rw [this]; exact Own.nil _ _, Kept.refl _ _⟩
  case round =>
    obtain ⟨k, b, c, hk, rfl, rfl, hown, hkk⟩ := hrel
    have HO := Lib.hid hown
    have HK := Lib.hid hkk
    have HLN := Lib.hid (wpr30_len l k)
    clear hown hkk
    by_cases hlt : k < 64
    · have hk0 : (0 : Int) ≤ (k : Int) := by omega
      have hk1 : (k : Int) < 64 := by omega
      by_cases hkl : k < l.length
      · have hkl2 : (k : Int) < (l.length : Int) := by omega
        obtain ⟨ab, ao, ha, _, _, hcell⟩ := (HB.out.kept HK.out (fun _ _ h => h)).at30 hkl
        have hx := hIB.out.getD k
        obtain ⟨x, hx2⟩ : ∃ x, x = l.getD k 0 := ⟨_, rfl⟩
        have HN := Lib.hid (wpr30_lt hkl)
        rw [← hx2] at hcell hx HN
        subst ha
        have HBN := Lib.hid (cat_one30 wr x hx.1 hx.2)
        have HON := Lib.hid (HO.out.kept ((Kept.refl NoB wr).alloc (.cells #[.int .u8 x] 5)) (fun _ _ h => h))
        clear hx2
        go_wp2_with (at_builtin; refine wpList_append_Own28 22 5 i0 Try.underlying22 hi0 hz0 hz1 hz2 rfl _ rfl (.tmp 13) (.tmp 18) rfl w.heap.size (.slice b k c) (wpr30 l k) rfl HON.out (fun _ => True) _ [x] rfl HBN.out (by rw [HLN.out]; simp; omega) (by have := HK.out.size; simp; omega) (k + 1) (by rw [HLN.out]; rfl) ?_; intro a5 c5 w5 ho5 hk5; have HO5 := Lib.hid ho5; have HK5 := Lib.hid ((HK.out.alloc (.cells #[.int .u8 x] 5)).trans hk5 (fun i hi h => by omega)); clear ho5 hk5)
        go_roundw
        case rel => exact ⟨k + 1, a5, c5, by omega, by go_num, rfl, by rw [HN.out]; exact HO5.out, HK5.out⟩
        case measure => simp [RowKit.intOf]; omega
      · have hkl2 : decide ((k : Int) < (l.length : Int)) = false := decide_eq_false (by omega)
        have hkl3 : decide (k < l.length) = false := decide_eq_false hkl
        have HN := Lib.hid (wpr30_ge (l := l) (k := k) (by omega))
        have HBN := Lib.hid (cat_one30 wr 0 (by omega) (by omega))
        have HON := Lib.hid (HO.out.kept ((Kept.refl NoB wr).alloc (.cells #[.int .u8 0] 5)) (fun _ _ h => h))
        clear hkl
        go_wp2_with (at_builtin; refine wpList_append_Own28 22 5 i0 Try.underlying22 hi0 hz0 hz1 hz2 rfl _ rfl (.tmp 20) (.tmp 21) rfl w.heap.size (.slice b k c) (wpr30 l k) rfl HON.out (fun _ => True) _ [0] rfl HBN.out (by rw [HLN.out]; simp; omega) (by have := HK.out.size; simp; omega) (k + 1) (by rw [HLN.out]; rfl) ?_; intro a5 c5 w5 ho5 hk5; have HO5 := Lib.hid ho5; have HK5 := Lib.hid ((HK.out.alloc (.cells #[.int .u8 0] 5)).trans hk5 (fun i hi h => by omega)); clear ho5 hk5)
        go_roundw
        case rel => exact ⟨k + 1, a5, c5, by omega, by go_num, rfl, by rw [HN.out]; exact HO5.out, HK5.out⟩
        case measure => simp [RowKit.intOf]; omega
    · obtain rfl : k = 64 := by omega
      go_wp2_with fail
      go_ret
      exact ⟨_, rfl, by have := HO.out.bsl; exact this, HK.out⟩
end Go.Proofs.Ytiifkcjngajegaa
