/-
  Package bits and its answer: List, Count.
-/
import Derived.Test.YtbacnkndllifaaaBitC
namespace Go.Proofs.Ytbacnkndllifaaa
open Go.RowKit
set_option linter.unusedVariables false

/-- What a list of numbers tells. -/
def ListE (L : List Int) (w : World) (e : Ending) (w' : World) : Prop := ∃ a c, e = .returned (.slice a L.length c) ∧ IOwn w.heap.size w' (.slice a L.length c) L ∧ Kept NoB w w'
theorem ListE.mk {w w' : World} {v : Value} {L : List Int} (h : IOwn w.heap.size w' v L) (hk : Kept NoB w w') : ListE L w (.returned v) w' := by
  obtain ⟨a, c, rfl⟩ := h.form
  exact ⟨a, c, rfl, h, hk⟩
/-- The bits that are used, where the bytes fit. -/
def had27 (l : List Int) (n : Int) : List Int := if fitB l n then hadL (bitN l) n.toNat else []
theorem had27_yes {l : List Int} {k : Nat} (h : fitB l (k : Int) = true) : had27 l (k : Int) = hadL (bitN l) k := by
  unfold had27; rw [if_pos h, Int.toNat_natCast]
theorem had27_no {l : List Int} {n : Int} (h : fitB l n = false) : had27 l n = [] := by
  unfold had27; rw [h]; rfl
theorem fitB_le {l : List Int} {n : Int} (h : fitB l n = true) : 0 ≤ n ∧ n ≤ 4096 := by
  obtain ⟨k, rfl, hk, _⟩ := fitB_nat h; omega
/-- One number more. -/
theorem put_ints {B : Nat} {w0 w w1 : World} {v : Value} {x : Int} (hb : w0.heap.size ≤ B) (hk : Kept NoB w0 w) (o : Obj) (hg : (w.alloc o).grownBy w1 v.ownBlock) (hv : ∀ b, v.ownBlock = some b → B ≤ b) : Kept NoB w0 w1 :=
  (hk.alloc o).grown hg (fun b hb' => .inr (Nat.le_trans hb (hv b hb')))

set_option maxRecDepth 100000 in
theorem bList27_any (v : Value) (l : List Int) (F : Nat → Prop) (n : Int) (w : World) (h : BSl w F v l) :
    Calls Try.prog 25 #[v, .int .i64 n] w (ListE (had27 l n) w) := by
  have HF := Lib.hid (bFits_any v l F n w h)
  cases hf : fitB l n with
  | false =>
    rw [hf] at HF
    rw [had27_no hf]
    clear hf h
    go_enter Try.func25, Try.ntmps25
    go_wp2_with (go_at_call 18; refine HF.out.mono ?_; rintro e w' ⟨rfl, rfl⟩)
    go_ret
    exact ListE.mk (IOwn.nil _ _) (Kept.refl _ _)
  | true =>
    rw [hf] at HF
    obtain ⟨n', rfl, hn4, _, _⟩ := fitB_nat hf
    rw [had27_yes hf]
    have HB := Lib.hid h
    clear hf h
    go_enter Try.func25, Try.ntmps25
    go_wp2_with (go_at_call 18; refine HF.out.mono ?_; rintro e w' ⟨rfl, rfl⟩)
    go_loopw [5, 12] (fun u i wr => ∃ k : Nat, k ≤ n' ∧ i = .int .i64 k ∧ IOwn w.heap.size wr u (hadL (bitN l) k) ∧ Kept NoB w wr) (fun _ i _ => n' - (intOf i).toNat)
    case atStart => exact ⟨0, by omega, rfl, IOwn.nil _ _, Kept.refl _ _⟩
    case round =>
      obtain ⟨k, hk, rfl, hown, hkk⟩ := hrel
      have HO := Lib.hid hown
      have HK := Lib.hid hkk
      have hsz := hkk.size
      have hll := hadL_len (bitN l) k
      obtain ⟨L, hL⟩ : ∃ L, L = hadL (bitN l) k := ⟨_, rfl⟩
      rw [← hL] at HO hll
      have HL := Lib.hid hL
      clear hown hkk hL
      by_cases hlt : k < n'
      · have HH := Lib.hid (bHas27_any v l F (k : Int) wr (HB.out.kept HK.out (fun _ _ h => h)) (by omega))
        rw [bitI_nat] at HH
        cases hm : bitN l k with
        | true =>
          rw [hm] at HH
          have HM : Hid (hadL (bitN l) (k + 1) = L ++ [(k : Int)]) := Lib.hid (by rw [hadL_yes hm, HL.out])
          have HO1 := Lib.hid (row_keptI HO.out ((Kept.refl NoB wr).alloc (.cells #[.int .i64 (k : Int)] 3)) (fun _ _ h => h))
          have HON := Lib.hid (nsl_one (heap_alloc_new wr (.cells #[.int .i64 (k : Int)] 3)))
          have HSZ : Hid (w.heap.size ≤ (wr.alloc (.cells #[.int .i64 (k : Int)] 3)).heap.size) := Lib.hid (by simp; omega)
          clear hm
          go_wp2_with (first
            | (go_at_call 20; refine HH.out.mono ?_; rintro e w' ⟨rfl, rfl⟩)
            | (at_builtin; refine wpList_append_nsl _ rfl (.tmp 18) (.tmp 20) rfl w.heap.size u5 L rfl HO1.out (fun _ => True) (.slice (some ⟨wr.heap.size, 0, none⟩) 1 1) [(k : Int)] rfl HON.out (by simp; omega) HSZ.out ?_; intro a1 e1 w3 hown1 hg1 hat1; have HP := Lib.hid hown1; have HK3 := Lib.hid (put_ints (x := 0) (Nat.le_refl _) HK.out _ hg1 (fun b hb => (World.ownsRow.lt HO1.out b hb).1)); clear hown1 hg1 hat1))
          go_roundw
          case rel => exact ⟨k + 1, by omega, by go_num, by rw [HM.out]; exact HP.out, HK3.out⟩
          case measure => simp [intOf]; omega
        | false =>
          rw [hm] at HH
          have HM : Hid (hadL (bitN l) (k + 1) = L) := Lib.hid (by rw [hadL_no hm, HL.out])
          clear hm
          go_wp2_with (go_at_call 20; refine HH.out.mono ?_; rintro e w' ⟨rfl, rfl⟩)
          go_roundw
          case rel => exact ⟨k + 1, by omega, by go_num, by rw [HM.out]; exact HO.out, HK.out⟩
          case measure => simp [intOf]; omega
      · obtain rfl : k = n' := by omega
        have HE := Lib.hid (ListE.mk HO.out HK.out)
        rw [HL.out] at HE
        go_wp2
        go_ret
        exact HE.out

theorem bCount27_any (v : Value) (l : List Int) (F : Nat → Prop) (n : Int) (w : World) (h : BSl w F v l) :
    Calls Try.prog 17 #[v, .int .i64 n] w fun e w' => e = .returned (.int .i64 ((had27 l n).length : Nat)) ∧ Kept NoB w w' := by
  have HC := Lib.hid (bList27_any v l F n w h)
  clear h
  obtain ⟨L, hL⟩ : ∃ L, L = had27 l n := ⟨_, rfl⟩
  rw [← hL] at HC ⊢
  clear hL
  go_enter Try.func17, Try.ntmps17
  go_wp2_with fail
  refine HC.out.mono ?_
  rintro e w' ⟨a, c, rfl, _, hk⟩
  have HK := Lib.hid hk
  clear hk
  go_wp2
  go_ret
  exact ⟨rfl, HK.out⟩
set_option maxRecDepth 100000 in
theorem rList27_any (v : Value) (l : List Int) (F : Nat → Prop) (n : Int) (w : World) (h : BSl w F v l) :
    Calls Try.prog 23 #[v, .int .i64 n] w (ListE (had27 l n) w) := by
  have HF := Lib.hid (rFits_any v l F n w h)
  cases hf : fitB l n with
  | false =>
    rw [hf] at HF
    rw [had27_no hf]
    clear hf h
    go_enter Try.func23, Try.ntmps23
    go_wp2_with (go_at_call 19; refine HF.out.mono ?_; rintro e w' ⟨rfl, rfl⟩)
    go_ret
    exact ListE.mk (IOwn.nil _ _) (Kept.refl _ _)
  | true =>
    rw [hf] at HF
    obtain ⟨n', rfl, hn4, _, _⟩ := fitB_nat hf
    rw [had27_yes hf]
    have HB := Lib.hid h
    clear hf h
    go_enter Try.func23, Try.ntmps23
    go_wp2_with (go_at_call 19; refine HF.out.mono ?_; rintro e w' ⟨rfl, rfl⟩)
    go_loopw [5, 6] (fun u i wr => ∃ k : Nat, k ≤ n' ∧ i = .int .i64 k ∧ IOwn w.heap.size wr u (hadL (bitN l) k) ∧ Kept NoB w wr) (fun _ i _ => n' - (intOf i).toNat)
    case atStart => exact ⟨0, by omega, rfl, IOwn.nil _ _, Kept.refl _ _⟩
    case round =>
      obtain ⟨k, hk, rfl, hown, hkk⟩ := hrel
      have HO := Lib.hid hown
      have HK := Lib.hid hkk
      have hsz := hkk.size
      have hll := hadL_len (bitN l) k
      obtain ⟨L, hL⟩ : ∃ L, L = hadL (bitN l) k := ⟨_, rfl⟩
      rw [← hL] at HO hll
      have HL := Lib.hid hL
      clear hown hkk hL
      by_cases hlt : k < n'
      · have HH := Lib.hid (rHas27_any v l F (k : Int) wr (HB.out.kept HK.out (fun _ _ h => h)) (by omega))
        rw [bitI_nat] at HH
        cases hm : bitN l k with
        | true =>
          rw [hm] at HH
          have HM : Hid (hadL (bitN l) (k + 1) = L ++ [(k : Int)]) := Lib.hid (by rw [hadL_yes hm, HL.out])
          have HO1 := Lib.hid (row_keptI HO.out ((Kept.refl NoB wr).alloc (.cells #[.int .i64 (k : Int)] 3)) (fun _ _ h => h))
          have HON := Lib.hid (nsl_one (heap_alloc_new wr (.cells #[.int .i64 (k : Int)] 3)))
          have HSZ : Hid (w.heap.size ≤ (wr.alloc (.cells #[.int .i64 (k : Int)] 3)).heap.size) := Lib.hid (by simp; omega)
          clear hm
          go_wp2_with (first
            | (go_at_call 21; refine HH.out.mono ?_; rintro e w' ⟨rfl, rfl⟩)
            | (at_builtin; refine wpList_append_nsl _ rfl (.tmp 19) (.tmp 21) rfl w.heap.size u5 L rfl HO1.out (fun _ => True) (.slice (some ⟨wr.heap.size, 0, none⟩) 1 1) [(k : Int)] rfl HON.out (by simp; omega) HSZ.out ?_; intro a1 e1 w3 hown1 hg1 hat1; have HP := Lib.hid hown1; have HK3 := Lib.hid (put_ints (x := 0) (Nat.le_refl _) HK.out _ hg1 (fun b hb => (World.ownsRow.lt HO1.out b hb).1)); clear hown1 hg1 hat1))
          go_roundw
          case rel => exact ⟨k + 1, by omega, by go_num, by rw [HM.out]; exact HP.out, HK3.out⟩
          case measure => simp [intOf]; omega
        | false =>
          rw [hm] at HH
          have HM : Hid (hadL (bitN l) (k + 1) = L) := Lib.hid (by rw [hadL_no hm, HL.out])
          clear hm
          go_wp2_with (go_at_call 21; refine HH.out.mono ?_; rintro e w' ⟨rfl, rfl⟩)
          go_roundw
          case rel => exact ⟨k + 1, by omega, by go_num, by rw [HM.out]; exact HO.out, HK.out⟩
          case measure => simp [intOf]; omega
      · obtain rfl : k = n' := by omega
        have HE := Lib.hid (ListE.mk HO.out HK.out)
        rw [HL.out] at HE
        go_wp2
        go_ret
        exact HE.out

end Go.Proofs.Ytbacnkndllifaaa
