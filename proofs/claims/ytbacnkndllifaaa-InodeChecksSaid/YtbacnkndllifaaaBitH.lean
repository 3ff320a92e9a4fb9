/-
  Package bits: Take, Give.
-/
import Derived.Test.YtbacnkndllifaaaBitG
import Derived.Deep.CutRange
import Derived.Outline
import Derived.WalkMore
namespace Go.Proofs.Ytbacnkndllifaaa
open Go.RowKit
set_option linter.unusedVariables false

theorem hadL_prefix (f : Nat → Bool) {i n : Nat} (h : i ≤ n) : hadL f i <+: hadL f n := by
  induction n with
  | zero => obtain rfl : i = 0 := by omega
            exact List.prefix_refl _
  | succ n ih =>
    by_cases e : i = n + 1
    · rw [e]; exact List.prefix_refl _
    · have h1 := ih (by omega)
      cases hf : f n
      · rw [hadL_no hf]; exact h1
      · rw [hadL_yes hf]; exact h1.trans (List.prefix_append _ _)
/-- The free ones. -/
def frL (l : List Int) (n : Nat) : List Int := hadL (fun i => !bitN l i) n
theorem frL_take {l : List Int} {i n k : Nat} (h : i ≤ n) (hk : (frL l i).length = k ∨ i = n ∧ (frL l i).length ≤ k) : frL l i = (frL l n).take k := by
  have hp := List.prefix_iff_eq_take.1 (hadL_prefix (fun j => !bitN l j) h)
  rcases hk with hk | ⟨rfl, hk⟩
  · rw [← hk]; exact hp
  · rw [List.take_of_length_le hk]
/-- What Take tells. -/
def tkE (l : List Int) (n k : Int) : Int := if fitB l n then (if k < 0 then 1 else if (n.toNat : Int) - (hadL (bitN l) n.toNat).length < k then 16 else 0) else 4
def tkT (l : List Int) (n k : Int) : List Int := if tkE l n k = 0 then (frL l n.toNat).take k.toNat else []
def TkM (l : List Int) (n k : Int) (M : List Int) : Prop := if tkE l n k = 0 then BM (fun j => bitN l j || decide ((j : Int) ∈ tkT l n k)) n.toNat M else M = []
theorem TkM.uniq {l : List Int} {n k : Int} {M M' : List Int} (h : TkM l n k M) (h' : TkM l n k M') : M = M' := by
  unfold TkM at h h'
  by_cases e : tkE l n k = 0
  · rw [if_pos e] at h h'
    exact h.uniq h' (fun _ _ => rfl)
  · rw [if_neg e] at h h'
    rw [h, h']
def TakeE (er : Int) (P : List Int → Prop) (T : List Int) (w : World) (e : Ending) (w' : World) : Prop :=
  ∃ a c b d M, e = .returned (.tuple #[.slice a M.length c, .slice b T.length d, .int .i64 er]) ∧ P M ∧ BSl w' (fun k => w.heap.size ≤ k) (.slice a M.length c) M ∧ NSl w' (fun k => w.heap.size ≤ k) (.slice b T.length d) T ∧ Kept NoB w w'
theorem TakeE.nil {er : Int} {P : List Int → Prop} {w w' : World} (hp : P []) (hk : Kept NoB w w') : TakeE er P [] w (.returned (.tuple #[.slice none 0 0, .slice none 0 0, .int .i64 er])) w' :=
  ⟨none, 0, none, 0, [], rfl, hp, BSl.nil _ _, NSl.nil _ _, hk⟩
set_option maxRecDepth 100000 in
theorem bTake27_any (v : Value) (l : List Int) (F : Nat → Prop) (n k : Int) (w : World) (h : BSl w F v l) :
    Calls Try.prog 26 #[v, .int .i64 n, .int .i64 k] w (TakeE (tkE l n k) (TkM l n k) (tkT l n k) w) := by
  have HF := Lib.hid (bFits_any v l F n w h)
  cases hf : fitB l n with
  | false =>
    rw [hf] at HF
    have he : tkE l n k = 4 := by simp [tkE, hf]
    have HP : Hid (TkM l n k []) := Lib.hid (by simp [TkM, he])
    rw [he, show tkT l n k = [] by simp [tkT, he]]
    clear hf h he
    go_enter Try.func26, Try.ntmps26
    go_wp2_with fail
    go_step3
    go_wp2_with (go_at_call 18; refine HF.out.mono ?_; rintro e w' ⟨rfl, rfl⟩)
    rw [Exit.noGoto_ret]
    go_ret3
    exact TakeE.nil HP.out (Kept.refl _ _)
  | true =>
    rw [hf] at HF
    obtain ⟨n', rfl, hn4, hl, hbz⟩ := fitB_nat hf
    by_cases hk0 : k < 0
    · have he : tkE l n' k = 1 := by simp [tkE, hf, hk0]
      have HP : Hid (TkM l n' k []) := Lib.hid (by simp [TkM, he])
      rw [he, show tkT l n' k = [] by simp [tkT, he]]
      clear hf h he hl hbz
      go_enter Try.func26, Try.ntmps26
      go_wp2_with fail
      go_step3
      go_wp2_with (go_at_call 18; refine HF.out.mono ?_; rintro e w' ⟨rfl, rfl⟩)
      rw [Exit.noGoto_ret]
      go_ret3
      exact TakeE.nil HP.out (Kept.refl _ _)
    · obtain ⟨q, rfl⟩ := Int.eq_ofNat_of_zero_le (show 0 ≤ k by omega)
      have HC := Lib.hid (bCount27_any v l F n' w h)
      rw [had27_yes hf] at HC
      have hcl := hadL_len (bitN l) n'
      have hbo := hadL_both (bitN l) n'
      by_cases hsp : (n' : Int) - (hadL (bitN l) n').length < (q : Int)
      · have he : tkE l n' q = 16 := by simp [tkE, hf, hsp]
        have HP : Hid (TkM l n' q []) := Lib.hid (by simp [TkM, he])
        rw [he, show tkT l n' q = [] by simp [tkT, he]]
        obtain ⟨c, hc⟩ : ∃ c, c = (hadL (bitN l) n').length := ⟨_, rfl⟩
        rw [← hc] at HC hsp hcl
        have hd : decide ((n' : Int) - (c : Int) < (q : Int)) = true := decide_eq_true hsp
        clear hf h he hl hbz hbo hc hsp
        go_enter Try.func26, Try.ntmps26
        go_wp2_with fail
        go_step3
        go_wp2_with (first
          | (go_at_call 18; refine HF.out.mono ?_; rintro e w' ⟨rfl, rfl⟩)
          | (go_at_call 17; refine HC.out.mono ?_; rintro e w1 ⟨rfl, hk⟩; have HK := Lib.hid hk; clear hk))
        rw [Exit.noGoto_ret]
        go_ret3
        exact TakeE.nil HP.out HK.out
      · have he : tkE l n' q = 0 := by simp [tkE, hf, hsp]
        have hT : tkT l n' q = (frL l n').take q := by simp [tkT, he]
        have HP : Hid (∀ M, BM (fun j => bitN l j || decide ((j : Int) ∈ (frL l n').take q)) n' M → TkM l n' q M) := Lib.hid (fun M hM => by
          unfold TkM; rw [if_pos he, hT]; simpa using hM)
        rw [he, hT]
        have hfl : (frL l n').length = n' - (hadL (bitN l) n').length := by unfold frL; omega
        have hq : q ≤ (frL l n').length := by rw [hfl]; omega
        have hq2 : q ≤ n' := by omega
        obtain ⟨c, hc⟩ : ∃ c, c = (hadL (bitN l) n').length := ⟨_, rfl⟩
        rw [← hc] at HC hsp hcl
        have hd : decide ((n' : Int) - (c : Int) < (q : Int)) = false := decide_eq_false hsp
        have HW := Lib.hid (fun w' (hk : Kept NoB w w') => whole_any v l F n' w' (h.kept hk (fun _ _ h => h)) hn4 hl)
        have hwl := wholeB_len hl
        have hb1 := byt_le n'
        have hb2 := byt_lt n'
        have HBM := Lib.hid (wholeB_BM h.isB hl hbz)
        obtain ⟨m, hm⟩ : ∃ m, m = byt n' := ⟨_, rfl⟩
        rw [← hm] at HW hwl hb1 hb2
        have HM := Lib.hid hm
        have HQ := Lib.hid hq
        have HWL := Lib.hid hwl
        obtain ⟨i0, hi0, hz0, hz1, hz2⟩ := info_parts info_int
        clear hf h he hl hbz hbo hc hsp hT hfl hq hm hwl
        go_enter Try.func26, Try.ntmps26
        go_wp2_with fail
        go_step3
        go_wp2_with (first
          | (go_at_call 18; refine HF.out.mono ?_; rintro e w' ⟨rfl, rfl⟩)
          | (go_at_call 17; refine HC.out.mono ?_; rintro e w1 ⟨rfl, hk⟩; have HK := Lib.hid hk; have hsz1 := hk.size; clear hk)
          | (go_at_call 52; refine (HW.out w1 HK.out).mono ?_; rintro e w2 ⟨rfl, hb, hk⟩; have HB := Lib.hid hb; have HK2 := Lib.hid (HK.out.trans hk (fun _ _ h => h)); have hsz2 := hk.size; have hgl := heap_lt hb.2; clear hb hk)
          | (at_make; refine wpList_make_own _ rfl _ _ 32 rfl (w1.heap.size + 1) 3 i0 (.int .i64 0) 1 Try.underlying32 hi0 hz0 hz1 _ _ _ q rfl rfl (by omega) (by rw [hz2]; omega) (by unfold maxLen; omega) (by omega) ?_; intro w3 hown3 hg3))
        have hk3 : Kept NoB w2 w3 := (Kept.refl NoB w2).grown hg3 (fun k hk => by cases hk)
        have HK3 := Lib.hid (HK2.out.trans hk3 (fun _ _ h => h))
        have HB3 := Lib.hid (HB.out.kept hk3 (fun h => h))
        have hio : IOwn (w1.heap.size + 1) w3 (.slice (some ⟨w2.heap.size, 0, none⟩) 0 q) [] := hown3
        have HO3 := Lib.hid hio
        have hgl3 : w1.heap.size < w3.heap.size := by have := hk3.size; omega
        have HT3 := Lib.hid hgl3
        obtain ⟨g, hg⟩ : ∃ g, g = w1.heap.size := ⟨_, rfl⟩
        have HG := Lib.hid hg
        rw [← hg] at HB3 HO3 HT3 ⊢
        clear hown3 hg3 hk3 hio hgl3 hz0 hz1 hz2 hi0 hd hg HC HF HW
        have HWB : Hid (w.heap.size ≤ g) := Lib.hid (by rw [HG.out]; exact hsz1)
        have HEND : Hid (∀ wr (j : Nat) (M T : List Int) (a : Option Addr) (c : Nat), j ≤ n' → (T.length = q ∨ j = n' ∧ T.length ≤ q) → T = frL l j → M.length = m → BytB wr g M → BM (fun p => bitN l p || decide ((p : Int) ∈ T)) n' M → IOwn (g + 1) wr (.slice a T.length c) T → Kept NoB w wr →
            TakeE 0 (TkM l n' q) ((frL l n').take q) w (.returned (.tuple #[.slice (some ⟨g, 0, none⟩) m m, .slice a T.length c, .int .i64 0])) wr) := Lib.hid (fun wr j M T a c hj hq hT hM hb hbm ho hk => by
          have hTt : T = (frL l n').take q := by rw [hT]; exact frL_take hj (by rw [← hT]; exact hq)
          have hx := hb.bsl (by unfold maxLen; omega)
          rw [hM] at hx
          refine ⟨some ⟨g, 0, none⟩, m, a, c, M, by rw [hM, ← hTt], HP.out M (by rw [← hTt]; exact hbm), ?_, ?_, hk⟩
          · rw [hM]; exact hx.mono (fun k _ e => by rw [e]; exact HWB.out)
          · rw [← hTt]; exact ho.nslB.mono (fun k _ e => by have := HWB.out; omega))
        go_wp2
        go_step3
        go_wp2
        go_loopw [10, 34] (fun u i wr => ∃ (j : Nat) (M T : List Int) (a : Option Addr) (c : Nat), j ≤ n' ∧ i = .int .i64 j ∧ u = .slice a T.length c ∧ T = frL l j ∧ T.length ≤ q ∧ BytB wr g M ∧ BM (fun p => bitN l p || decide ((p : Int) ∈ T)) n' M ∧ IOwn (g + 1) wr (.slice a T.length c) T ∧ Kept NoB w wr) (fun _ i _ => n' - (intOf i).toNat)
        case atStart => exact ⟨0, _, [], _, _, by omega, rfl, rfl, rfl, by simp, HB3.out, HBM.out.cong (fun i _ => by simp), HO3.out, HK3.out⟩
        case round =>
          obtain ⟨j, M, T, a, c, hj, rfl, rfl, hT, hTq, hby, hbm, hown, hkk⟩ := hrel
          have HY := Lib.hid hby
          have HBM2 := Lib.hid hbm
          have HO := Lib.hid hown
          have HKK := Lib.hid hkk
          have HTE := Lib.hid hT
          have hml : M.length = m := hbm.len.trans HM.out.symm
          have HML := Lib.hid hml
          have hgw := heap_lt hby.2
          have HGW := Lib.hid hgw
          have htj : T.length ≤ j := by rw [hT]; exact hadL_len _ _
          have hjT : decide ((j : Int) ∈ T) = false := decide_eq_false (fun h => by
            rw [hT] at h
            obtain ⟨i, h1, h2, _⟩ := hadL_mem.1 h
            omega)
          clear hby hbm hown hkk hT
          by_cases hlt : j < n'
          · by_cases htq : T.length = q
            · have heq : ((T.length : Int) == (q : Int)) = true := by rw [htq]; simp
              have HE := Lib.hid (HEND.out wr j M T a c hj (.inl htq) HTE.out HML.out HY.out HBM2.out HO.out HKK.out)
              clear htq hjT hml
              go_wp2
              rw [Exit.noGoto_ret]
              go_ret3
              exact HE.out
            · have heq : ((T.length : Int) == (q : Int)) = false := by rw [beq_eq_false_iff_ne]; omega
              have htl : T.length < q := by omega
              have HH := Lib.hid (bHas27_any (bv g M.length) M _ (j : Int) wr (HY.out.bsl (by unfold maxLen; omega)) (by omega))
              have hbit : bitN M j = bitN l j := by rw [HBM2.out.bit, decide_eq_true hlt, hjT]; simp
              rw [bitI_nat, hml, hbit] at HH
              clear htq hml hbit
              cases hm2 : bitN l j with
              | true =>
                rw [hm2] at HH
                have HF2 : Hid (T = frL l (j + 1)) := Lib.hid (by unfold frL; rw [hadL_no (f := fun i => !bitN l i) (by simp [hm2])]; exact HTE.out)
                clear hm2 hjT
                go_wp2_with (go_at_call 20; refine HH.out.mono ?_; rintro e w' ⟨rfl, rfl⟩)
                go_roundw
                case rel => exact ⟨j + 1, M, T, a, c, by omega, by go_num, rfl, HF2.out, by omega, HY.out, HBM2.out, HO.out, HKK.out⟩
                case measure => simp [intOf]; omega
              | false =>
                rw [hm2] at HH
                have HF2 : Hid (T ++ [(j : Int)] = frL l (j + 1)) := Lib.hid (by unfold frL; rw [hadL_yes (f := fun i => !bitN l i) (by simp [hm2])]; rw [HTE.out]; rfl)
                have HPU := Lib.hid (put_any g M j true wr HY.out (by rw [HML.out]; omega) (by rw [HML.out]; omega))
                rw [HML.out] at HPU
                have HBM3 : Hid (BM (fun p => bitN l p || decide ((p : Int) ∈ T ++ [(j : Int)])) n' (turnB M j true)) := Lib.hid ((HBM2.out.turn hlt true).cong fun i _ => by
                  by_cases e : i = j
                  · subst e; simp
                  · have : ¬ (i : Int) = (j : Int) := by omega
                    simp only [List.mem_append, List.mem_singleton, this, or_false, if_neg e])
                have HNB : Hid ((Value.slice a T.length c).ownBlock ≠ some g) := Lib.hid (fun h => by have := (World.ownsRow.lt HO.out g h).1; omega)
                clear hm2 hjT
                go_wp2_with (first
                  | (go_at_call 20; refine HH.out.mono ?_; rintro e w' ⟨rfl, rfl⟩)
                  | (go_at_call 53; refine HPU.out.mono ?_; rintro e w4 ⟨rfl, hb4, hk4⟩; have HB4 := Lib.hid hb4; have HK4 := Lib.hid (HKK.out.trans hk4 (fun i h1 h2 => absurd HWB.out (by omega))); have HO4 := Lib.hid (row_keptI HO.out hk4 (fun k hk h => HNB.out (h ▸ hk))); have hsz4 := hk4.size; have HO1 := Lib.hid (row_keptI HO4.out ((Kept.refl NoB w4).alloc (.cells #[.int .i64 (j : Int)] 3)) (fun _ _ h => h)); have HON := Lib.hid (nsl_one (heap_alloc_new w4 (.cells #[.int .i64 (j : Int)] 3))); (have HSZ : Hid (g + 1 ≤ (w4.alloc (.cells #[.int .i64 (j : Int)] 3)).heap.size) := Lib.hid (by have := HGW.out; simp; omega)); clear hb4 hk4)
                  | (at_builtin; refine wpList_append_nsl _ rfl (.tmp 50) (.tmp 52) rfl (g + 1) (.slice a T.length c) T rfl HO1.out (fun _ => True) (.slice (some ⟨w4.heap.size, 0, none⟩) 1 1) [(j : Int)] rfl HON.out (by simp; omega) HSZ.out ?_; intro a1 e1 w5 hown1 hg1 hat1; have HP1 := Lib.hid hown1; have HK5 := Lib.hid ((HK4.out.alloc _).grown hg1 (fun b hb => .inr (by have := (World.ownsRow.lt HO1.out b hb).1; have := HWB.out; omega))); have HB5 := Lib.hid (HB4.out.kept (((Kept.refl (fun b => some b = (Value.slice a T.length c).ownBlock) w4).alloc (.cells #[.int .i64 (j : Int)] 3)).grown hg1 (fun b hb => .inl hb.symm)) (fun h => HNB.out h.symm)); clear hown1 hg1 hat1))
                go_roundw
                case rel => exact ⟨j + 1, turnB M j true, T ++ [(j : Int)], a1, e1, by omega, by go_num, (by rw [List.length_append]; rfl), HF2.out, by simp; omega, HB5.out, HBM3.out, (by rw [List.length_append]; exact HP1.out), HK5.out⟩
                case measure => simp [intOf]; omega
          · obtain rfl : j = n' := by omega
            have HE := Lib.hid (HEND.out wr j M T a c hj (.inr ⟨rfl, hTq⟩) HTE.out HML.out HY.out HBM2.out HO.out HKK.out)
            clear hjT hml
            go_wp2
            rw [Exit.noGoto_ret]
            go_ret3
            exact HE.out
end Go.Proofs.Ytbacnkndllifaaa
