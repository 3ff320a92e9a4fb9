/-
  The chapter's bitmaps: without, Of.
-/
import Derived.Test.YtbacnkndllifaaaBitF
import Derived.BigRegion
namespace Go.Proofs.Ytbacnkndllifaaa
open Go.RowKit
set_option linter.unusedVariables false

def wo27 (L : List Int) (x : Int) : List Int := L.filter fun y => y != x
theorem wo27_yes {L : List Int} {x : Int} {j : Nat} (h : j < L.length) (he : L.getD j 0 = x) : wo27 (L.take (j + 1)) x = wo27 (L.take j) x := by
  unfold wo27; rw [take_snoc h, he, List.filter_append]; simp
theorem wo27_no {L : List Int} {x : Int} {j : Nat} (h : j < L.length) (he : L.getD j 0 ≠ x) : wo27 (L.take (j + 1)) x = wo27 (L.take j) x ++ [L.getD j 0] := by
  unfold wo27; rw [take_snoc h, List.filter_append, List.filter_cons_of_pos (p := fun y => y != x) (bne_iff_ne.2 he)]; rfl
theorem wo27_len (L : List Int) (x : Int) : (wo27 L x).length ≤ L.length := List.length_filter_le _ _
theorem mem_take_yes {L : List Int} {x : Int} {j : Nat} (h : j < L.length) (he : L.getD j 0 = x) : decide (x ∈ L.take (j + 1)) = true := by
  rw [take_snoc h, he]; simp
theorem mem_take_no {L : List Int} {x : Int} {j : Nat} (h : j < L.length) (he : L.getD j 0 ≠ x) : decide (x ∈ L.take (j + 1)) = decide (x ∈ L.take j) := by
  rw [take_snoc h]
  have : ¬ x = L.getD j 0 := fun h => he h.symm
  simp only [List.mem_append, List.mem_singleton, this, or_false]
def WoE (L : List Int) (b : Bool) (w : World) (e : Ending) (w' : World) : Prop := ∃ a c, e = .returned (.tuple #[.slice a L.length c, .bool b]) ∧ IOwn w.heap.size w' (.slice a L.length c) L ∧ Kept NoB w w'
theorem WoE.mk {w w' : World} {v : Value} {L : List Int} {b : Bool} (h : IOwn w.heap.size w' v L) (hk : Kept NoB w w') : WoE L b w (.returned (.tuple #[v, .bool b])) w' := by
  obtain ⟨a, c, rfl⟩ := h.form
  exact ⟨a, c, rfl, h, hk⟩
set_option maxRecDepth 100000 in
theorem without_any (v : Value) (L : List Int) (F : Nat → Prop) (x : Int) (w : World) (h : NSl w F v L) (hl : L.length ≤ 10000) :
    Calls Try.prog 54 #[v, .int .i64 x] w (WoE (wo27 L x) (decide (x ∈ L)) w) := by
  obtain ⟨a, cap, rfl, _⟩ := id h
  have HB := Lib.hid h
  clear h
  go_enter Try.func54, Try.ntmps54
  go_wp2
  go_loopw [6, 7, 8] (fun u t i wr => ∃ j : Nat, j ≤ L.length ∧ i = .int .i64 j ∧ IOwn w.heap.size wr u (wo27 (L.take j) x) ∧ t = .bool (decide (x ∈ L.take j)) ∧ Kept NoB w wr) (fun _ _ i _ => L.length - (intOf i).toNat)
  case atStart => exact ⟨0, by omega, rfl, IOwn.nil _ _, by simp, Kept.refl _ _⟩
  case round =>
    obtain ⟨j, hj, rfl, hown, rfl, hkk⟩ := hrel
    have HO := Lib.hid hown
    have HK := Lib.hid hkk
    have hsz := hkk.size
    have hll := Nat.le_trans (wo27_len (L.take j) x) (List.length_take_le' j L)
    obtain ⟨M, hM⟩ : ∃ M, M = wo27 (L.take j) x := ⟨_, rfl⟩
    obtain ⟨t, ht⟩ : ∃ t, t = decide (x ∈ L.take j) := ⟨_, rfl⟩
    rw [← hM] at HO hll
    rw [← ht]
    have HM := Lib.hid hM
    have HT := Lib.hid ht
    clear hown hkk hM ht
    by_cases hlt : j < L.length
    · obtain ⟨b, o, rfl, _, hb, hcell⟩ := (HB.out.kept HK.out (fun _ _ _ h => h)).at_ hlt
      obtain ⟨y, hy⟩ : ∃ y, y = L.getD j 0 := ⟨_, rfl⟩
      rw [← hy] at hcell
      have HY := Lib.hid hy
      have hj0 : (0 : Int) ≤ (j : Int) := by omega
      have hj1 : (j : Int) < (L.length : Int) := by omega
      clear hy
      by_cases he : y = x
      · have HM2 : Hid (wo27 (L.take (j + 1)) x = M) := Lib.hid (by rw [wo27_yes hlt (by rw [← HY.out, he]), HM.out])
        have HT2 : Hid (decide (x ∈ L.take (j + 1)) = true) := Lib.hid (mem_take_yes hlt (by rw [← HY.out, he]))
        have heb : (y == x) = true := by simpa using he
        clear he
        go_wp2
        go_roundw
        case rel => exact ⟨j + 1, by omega, by go_num, by rw [HM2.out]; exact HO.out, by rw [HT2.out], HK.out⟩
        case measure => simp [intOf]; omega
      · have HM2 : Hid (wo27 (L.take (j + 1)) x = M ++ [y]) := Lib.hid (by rw [wo27_no hlt (by rw [← HY.out]; exact he), HM.out, HY.out])
        have HT2 : Hid (decide (x ∈ L.take (j + 1)) = t) := Lib.hid (by rw [mem_take_no hlt (by rw [← HY.out]; exact he), HT.out])
        have heb : (y == x) = false := by simpa using he
        have HO1 := Lib.hid (row_keptI HO.out ((Kept.refl NoB wr).alloc (.cells #[.int .i64 y] 3)) (fun _ _ h => h))
        have HON := Lib.hid (nsl_one (heap_alloc_new wr (.cells #[.int .i64 y] 3)))
        have HSZ : Hid (w.heap.size ≤ (wr.alloc (.cells #[.int .i64 y] 3)).heap.size) := Lib.hid (by simp; omega)
        clear he
        go_wp2_with ((at_builtin; refine wpList_append_nsl _ rfl (.tmp 21) (.tmp 26) rfl w.heap.size u6 M rfl HO1.out (fun _ => True) (.slice (some ⟨wr.heap.size, 0, none⟩) 1 1) [y] rfl HON.out (by simp; omega) HSZ.out ?_; intro a1 e1 w3 hown1 hg1 hat1; have HP := Lib.hid hown1; have HK3 := Lib.hid (put_ints (x := 0) (Nat.le_refl _) HK.out _ hg1 (fun b hb => (World.ownsRow.lt HO1.out b hb).1)); clear hown1 hg1 hat1))
        go_roundw
        case rel => exact ⟨j + 1, by omega, by go_num, by rw [HM2.out]; exact HP.out, by rw [HT2.out], HK3.out⟩
        case measure => simp [intOf]; omega
    · obtain rfl : j = L.length := by omega
      have HE := Lib.hid (WoE.mk (b := t) HO.out HK.out)
      rw [HM.out, HT.out, List.take_length] at HE
      rw [HT.out, List.take_length]
      clear hlt
      go_wp2
      go_ret2
      exact HE.out

/-- A bitmap that Of tells. -/
def OfE27 (L : List Int) (n : Nat) (w : World) (e : Ending) (w' : World) : Prop := ∃ M, e = .returned (bv w.heap.size M.length) ∧ BytB w' w.heap.size M ∧ BM (fun k => decide ((k : Int) ∈ L)) n M ∧ Kept NoB w w'
set_option maxRecDepth 100000 in
theorem Of27_any (v : Value) (L : List Int) (F : Nat → Prop) (n : Nat) (w : World) (h : NSl w F v L) (hl : L.length ≤ 10000) (hn : n ≤ 4096) (hx : ∀ x ∈ L, 0 ≤ x ∧ x < n) :
    Calls Try.prog 55 #[v, .int .i64 (n : Int)] w (OfE27 L n w) := by
  obtain ⟨i0, hi0, hz0, hz1, hz2⟩ := info_parts info_u8
  obtain ⟨a, cap, rfl, _⟩ := id h
  have HB := Lib.hid h
  have HX := Lib.hid hx
  have HBF := Lib.hid (Size27_any n w hn)
  have hbl := byt_lt n
  have hbl2 := byt_le n
  obtain ⟨m, hm⟩ : ∃ m, m = byt n := ⟨_, rfl⟩
  have HST : Hid (BytB (w.alloc (.cells (Array.replicate m (Value.int .u8 0)) 5)) w.heap.size (List.replicate m 0) ∧ BM (fun k => decide ((k : Int) ∈ L.take 0)) n (List.replicate m 0)) := Lib.hid ⟨⟨fun x hx => by rw [List.eq_of_mem_replicate hx]; omega, by rw [heap_alloc_new]; simp⟩, by rw [hm]; exact (BM.none n).cong (fun i _ => by simp)⟩
  have HM := Lib.hid hm
  rw [← hm] at HBF hbl hbl2
  have hmk : ∀ W : World, (Instr.makeSlice 22 (.int .i64 (m : Int)) (.int .i64 (m : Int))).run Try.prog W = .ok (.slice (some ⟨W.heap.size, 0, none⟩) m m) (W.alloc (.cells (Array.replicate m (Value.int .u8 0)) 5)) := fun W => by
    have hr := run_make (P := Try.prog) W 22 5 i0 _ Try.underlying22 hi0 hz0 .i64 .i64 (m : Int) (m : Int) (by omega) (by omega) (by rw [hz2]; omega) (by omega)
    simp only [Int.toNat_natCast, hz1, Nat.mul_one] at hr
    have e : (Value.int IntKind.u8 0).cells = #[Value.int .u8 0] := rfl
    rw [e, made_zero] at hr
    exact hr
  clear h hx hm hi0 hz0 hz1 hz2
  go_enter Try.func55, Try.ntmps55
  go_wp2_with (go_at_call 16; refine HBF.out.mono ?_; rintro e w' ⟨rfl, rfl⟩)
  go_loopw [6] (fun i wr => ∃ (j : Nat) (M : List Int), j ≤ L.length ∧ i = .int .i64 j ∧ BytB wr w.heap.size M ∧ BM (fun k => decide ((k : Int) ∈ L.take j)) n M ∧ Kept NoB w wr) (fun i _ => L.length - (intOf i).toNat)
  case atStart => exact ⟨0, _, by omega, rfl, HST.out.1, HST.out.2, (Kept.refl _ _).alloc _⟩
  case round =>
    obtain ⟨j, M, hj, rfl, hby, hbm, hkk⟩ := hrel
    have HY := Lib.hid hby
    have HBM := Lib.hid hbm
    have HK := Lib.hid hkk
    have hml : M.length = m := hbm.len.trans HM.out.symm
    have HML := Lib.hid hml
    clear hby hbm hkk hmk HST
    by_cases hlt : j < L.length
    · obtain ⟨b, o, rfl, _, hb, hcell⟩ := (HB.out.kept HK.out (fun _ _ _ h => h)).at_ hlt
      have hxx := HX.out (L.getD j 0) (by rw [List.getD_eq_getElem?_getD, List.getElem?_eq_getElem hlt]; exact List.getElem_mem hlt)
      obtain ⟨k, hk⟩ := Int.eq_ofNat_of_zero_le hxx.1
      rw [hk] at hcell hxx
      have hkn : k < n := by omega
      have HKE := Lib.hid hk
      have hj0 : (0 : Int) ≤ (j : Int) := by omega
      have hj1 : (j : Int) < (L.length : Int) := by omega
      have HH := Lib.hid (rHas27_any (bv w.heap.size M.length) M _ (k : Int) wr (HY.out.bsl (by unfold maxLen; omega)) (by omega))
      rw [bitI_nat, hml] at HH
      have hbit : bitN M k = decide ((k : Int) ∈ L.take j) := by rw [HBM.out.bit, decide_eq_true hkn]; rfl
      clear hk hml
      cases hm2 : bitN M k with
      | true =>
        rw [hm2] at HH hbit
        have HN : Hid (BM (fun q => decide ((q : Int) ∈ L.take (j + 1))) n M) := Lib.hid (HBM.out.cong fun i _ => by
          rw [take_snoc hlt, HKE.out]
          have h1 := of_decide_eq_true hbit.symm
          by_cases e : i = k
          · subst e; simp [h1]
          · have : ¬ (i : Int) = (k : Int) := by omega
            simp only [List.mem_append, List.mem_singleton, this, or_false])
        clear hm2 hbit
        go_wp2_with (go_at_call 21; refine HH.out.mono ?_; rintro e w' ⟨rfl, rfl⟩)
        go_roundw
        case rel => exact ⟨j + 1, M, by omega, by go_num, HY.out, HN.out, HK.out⟩
        case measure => simp [intOf]; omega
      | false =>
        have hc := HY.out.cell (j := k / 8) (by rw [HML.out]; omega)
        have hf := HY.out.frz (k / 8)
        have hx := HY.out.1.getD (k / 8)
        have hTT := HY.out.turn k true
        obtain ⟨x, hx2⟩ : ∃ x : Nat, M.getD (k / 8) 0 = (x : Int) := ⟨(M.getD (k / 8) 0).toNat, by omega⟩
        have htb : x.testBit (k % 8) = false := by have := hm2; unfold bitN at this; rw [hx2] at this; simpa using this
        have hadd := onB_add x (by omega) (k % 8) (by omega) htb
        have hon := onB_lt x (by omega) (k % 8) (by omega)
        rw [hx2, show turnV (x : Int) (k % 8) true = (onB x (k % 8) : Int) by simp [turnV]] at hTT
        rw [hx2] at hc hx
        have hd : ((k : Int) / 8).toNat = k / 8 := by omega
        have hd0 : (0 : Int) ≤ (k : Int) / 8 := by omega
        have hk0 : (0 : Int) ≤ (k : Int) := by omega
        have hm0 : (0 : Int) ≤ (k : Int) % 8 := by omega
        have hm1 : (k : Int) % 8 < 8 := by omega
        have hlt2 : (k : Int) / 8 < (m : Int) := by omega
        obtain ⟨hp1, hp0⟩ := pow8_lt (show k % 8 < 8 by omega)
        have hw : IntKind.u8.wrap ((2 : Int) ^ (k % 8)) = (2 : Int) ^ (k % 8) := IntWalk.u8_in _ (by omega)
        have hsum : (x : Int) + (2 : Int) ^ (k % 8) = (onB x (k % 8) : Int) := by rw [← hadd]; simp
        have hw2 : ((x : Int) + (2 : Int) ^ (k % 8)) % 256 = (onB x (k % 8) : Int) := by rw [hsum]; omega
        rw [← hw2] at hTT
        clear hw2
        rw [hm2] at HH hbit
        have HT := Lib.hid hTT
        have HN : Hid (BM (fun q => decide ((q : Int) ∈ L.take (j + 1))) n (turnB M k true)) := Lib.hid ((HBM.out.turn hkn true).cong fun i _ => by
          rw [take_snoc hlt, HKE.out]
          by_cases e : i = k
          · subst e; simp
          · have : ¬ (i : Int) = (k : Int) := by omega
            simp only [List.mem_append, List.mem_singleton, this, or_false, if_neg e])
        have HKN : Hid (∀ wx u, Kept NoB w wx → Kept NoB w (wx.setCell ⟨w.heap.size, k / 8, none⟩ u)) := Lib.hid (fun wx u h => h.setCell (p := ⟨w.heap.size, k / 8, none⟩) (.inr (Nat.le_refl _)) u)
        clear hm2 hbit hTT hx2 hx hadd hon htb hsum hp1 hp0
        go_wp2_with (go_at_call 21; refine HH.out.mono ?_; rintro e w' ⟨rfl, rfl⟩)
        go_region
        go_wp2
        go_roundw
        case rel => exact ⟨j + 1, _, by omega, by go_num, HT.out, HN.out, (HKN.out _ _ HK.out).drew⟩
        case measure => simp [intOf]; omega
    · obtain rfl : j = L.length := by omega
      have HBM' : Hid (BM (fun k => decide ((k : Int) ∈ L)) n M) := Lib.hid (by have := HBM.out; rw [List.take_length] at this; exact this)
      rw [← hml]
      clear hlt HBM
      go_wp2
      go_ret
      exact ⟨M, rfl, HY.out, HBM'.out, HK.out⟩
end Go.Proofs.Ytbacnkndllifaaa
