/-
  Package inode: extents.
-/
import Derived.Test.YtbacnkndllifaaaInoE
namespace Go.Proofs.Ytbacnkndllifaaa
open Go.RowKit
set_option linter.unusedVariables false

theorem exts_lens (bs : List Int) : ∀ e ∈ exts bs, 1 ≤ e.2 ∧ e.2 ≤ 8 := by
  have key : ∀ (bs : List Int) (l : List Xt), (∀ e ∈ l, 1 ≤ e.2 ∧ e.2 ≤ 8) → ∀ e ∈ bs.foldl addB l, 1 ≤ e.2 ∧ e.2 ≤ 8 := by
    intro bs
    induction bs with
    | nil => intro l h; exact h
    | cons b r ih =>
      intro l h
      rw [List.foldl_cons]
      refine ih _ (fun e he => ?_)
      cases hf : fits28 l b with
      | false =>
        rw [addB_new hf] at he
        rcases List.mem_append.1 he with he | he
        · exact h e he
        · rw [List.mem_singleton.1 he]; exact ⟨by simp, by simp⟩
      | true =>
        have hli : l ≠ [] := by intro h; rw [h] at hf; cases hf
        obtain ⟨m, ⟨s, n⟩, rfl⟩ := snoc28 hli
        rw [fits_snoc] at hf
        simp only [Bool.and_eq_true, decide_eq_true_eq] at hf
        rw [addB_last m s n b hf.1 hf.2] at he
        rcases List.mem_append.1 he with he | he
        · exact h e (by simp [he])
        · rw [List.mem_singleton.1 he]
          have := h (s, n) (by simp)
          exact ⟨by simp; simp at this; omega, by simp; omega⟩
  exact key bs [] (fun e he => by cases he)
theorem celX_set (m : List Xt) (s n k : Int) : (celX (m ++ [(s, n)])).set (m.length * 2 + 1) (.int .i64 k) = celX (m ++ [(s, k)]) := by
  have h : ∀ x, celX (m ++ [(s, x)]) = celX m ++ [.int .i64 s, .int .i64 x] := fun x => by rw [celX_app]; rfl
  have hl := celX_len m
  rw [h, h, List.set_append_right _ _ (by omega), show m.length * 2 + 1 - (celX m).length = 1 by omega]
  rfl
/-- The last extent turned in its place. -/
theorem XOwn.turn {t : TypeId} {B : Nat} {w : World} {r c : Nat} {m : List Xt} {s n : Int} (h : XOwn t B w (.slice (some ⟨r, 0, none⟩) (m.length + 1) c) (m ++ [(s, n)])) (k : Int) :
    XOwn t B (w.setCell ⟨r, m.length * 2 + 1, none⟩ (.int .i64 k)) (.slice (some ⟨r, 0, none⟩) (m.length + 1) c) (m ++ [(s, k)]) := by
  have hl : ∀ x : Xt, (m ++ [x]).length = m.length + 1 := fun x => by simp
  unfold XOwn at h ⊢
  rw [hl] at h ⊢
  have := (World.ownsRow.stored h (m.length * 2 + 1) (.int .i64 k)).1
  rwa [celX_set] at this
theorem xth_last (m : List Xt) (e : Xt) : xth (m ++ [e]) m.length = e := by rw [xth_eq (by simp)]; simp
/-- What extents tell. -/
def XE (t : TypeId) (L : List Xt) (w : World) (e : Ending) (w' : World) : Prop := ∃ a c, e = .returned (.slice a L.length c) ∧ XOwn t w.heap.size w' (.slice a L.length c) L ∧ Kept NoB w w'
theorem XE.mk {t : TypeId} {w w' : World} {v : Value} {L : List Xt} (h : XOwn t w.heap.size w' v L) (hk : Kept NoB w w') : XE t L w (.returned v) w' := by
  obtain ⟨a, c, rfl⟩ := h.form
  exact ⟨a, c, rfl, h, hk⟩
set_option maxRecDepth 100000 in
theorem extents_any (v : Value) (bs : List Int) (F : Nat → Prop) (w : World) (h : NSl w F v bs) (hl : bs.length ≤ 10000) :
    Calls Try.prog 73 #[v] w (XE 81 (exts bs) w) := by
  obtain ⟨i0, hi0, hz0, hz1, hz2⟩ := info_parts info_xt
  obtain ⟨a, cap, rfl, hca, hcm, _⟩ := id h
  have HN := Lib.hid h
  have hlm : bs.length ≤ 9223372036854775807 := by omega
  clear h
  go_enter Try.func73, Try.ntmps73
  go_wp2
  go_loopw [3, 9] (fun u i wr => ∃ (j : Nat) (a : Option Addr) (c : Nat), j ≤ bs.length ∧ i = .int .i64 j ∧ u = .slice a (exts (bs.take j)).length c ∧ XOwn 81 w.heap.size wr (.slice a (exts (bs.take j)).length c) (exts (bs.take j)) ∧ Kept NoB w wr) (fun _ i _ => bs.length - (intOf i).toNat)
  case atStart => exact ⟨0, none, 0, by omega, rfl, rfl, XOwn.nil _ _ _, Kept.refl _ _⟩
  case round =>
    obtain ⟨j, ra, rc, hj, rfl, rfl, hown, hkk⟩ := hrel
    have HK := Lib.hid hkk
    have hel := Nat.le_trans (exts_len (bs.take j)) (List.length_take_le' j bs)
    have HLN := Lib.hid (exts_lens (bs.take j))
    obtain ⟨L, hL⟩ : ∃ L, L = exts (bs.take j) := ⟨_, rfl⟩
    rw [← hL] at hown hel HLN ⊢
    have HLE := Lib.hid hL
    have HO := Lib.hid hown
    have hsz := hkk.size
    clear hown hkk hL
    by_cases hlt : j < bs.length
    · obtain ⟨b, o, rfl, _, hb, hcell⟩ := (HN.out.kept HK.out (fun _ _ _ h => h)).at_ hlt
      obtain ⟨x, hx⟩ : ∃ x, x = bs.getD j 0 := ⟨_, rfl⟩
      rw [← hx] at hcell
      have HS : Hid (exts (bs.take (j + 1)) = addB L x) := Lib.hid (by rw [take_snoc hlt, exts_snoc, ← HLE.out, hx])
      have hj0 : (0 : Int) ≤ (j : Int) := by omega
      have hj1 : (j : Int) < (bs.length : Int) := by omega
      clear hx
      by_cases hli : L = []
      · subst hli
        have HS2 : Hid (exts (bs.take (j + 1)) = [] ++ [(x, 1)]) := Lib.hid (by rw [HS.out, addB_new rfl])
        have HO1 := Lib.hid (HO.out.no ((Kept.refl NoB wr).alloc (.cells #[.int .i64 x, .int .i64 1] 81)))
        have HB1 := Lib.hid (heap_alloc_new wr (.cells #[.int .i64 x, .int .i64 1] 81))
        have HSZ : Hid (w.heap.size ≤ (wr.alloc (.cells #[.int .i64 x, .int .i64 1] 81)).heap.size) := Lib.hid (by simp; omega)
        go_wp2
        go_quiet (fail)
        go_wp2_with (at_builtin; refine wpList_append_x Try.underlying45 hi0 hz0 hz1 hz2 rfl _ rfl (.tmp 49) (.tmp 52) rfl w.heap.size (.slice ra 0 rc) [] rfl (HO1.out.drewN _) wr.heap.size (x, 1) rfl HB1.out (by simp) HSZ.out ?_; intro a1 d1 w3 hown1 hg1; have HP := Lib.hid hown1; have HK3 := Lib.hid (((HK.out.drewN _).alloc _).grown hg1 (fun b hb => .inr (World.ownsRow.lt HO.out b hb).1)); clear hown1 hg1)
        go_roundw
        case rel => exact ⟨j + 1, a1, d1, by omega, by go_num, (by rw [HS2.out] <;> rfl), (by rw [HS2.out]; exact HP.out), HK3.out⟩
        case measure => simp [intOf]; omega
      · obtain ⟨m, ⟨s, n⟩, rfl⟩ := snoc28 hli
        obtain ⟨p, hp⟩ : ∃ p, p = m.length := ⟨_, rfl⟩
        have hq : (m ++ [(s, n)]).length = p + 1 := by rw [hp]; simp
        obtain ⟨q, hqq⟩ : ∃ q, q = p + 1 := ⟨_, rfl⟩
        rw [hq] at HO hel ⊢
        rw [← hqq] at HO hel ⊢
        obtain ⟨hn1, hn8⟩ := HLN.out (s, n) (by simp)
        simp only at hn1 hn8
        have hox := HO.out
        rw [hqq, hp] at hox
        have hrow : wr.ownsRow w.heap.size 81 2 (.slice ra (m.length + 1) rc) (m.length + 1) (celX (m ++ [(s, n)])) := by have := hox; unfold XOwn at this; rwa [show (m ++ [(s, n)]).length = m.length + 1 by simp] at this
        obtain ⟨r, cap', hv', hB', hlt'⟩ := World.ownsRow.form hrow (by omega)
        injection hv' with hv' _ hv''
        subst hv' hv''
        obtain ⟨r', o', hr', _, _, e0, e1⟩ := hox.sl.at_ (j := m.length) (by simp)
        injection hr' with hr'
        injection hr' with hr1 hr2
        subst hr1 hr2
        rw [xth_last, Nat.zero_add, ← hp] at e0 e1
        simp only at e0 e1
        have f1 : wr.frozen? ⟨r, p * 2 + 1, none⟩ = false := World.ownsRow.frozenAt hrow _
        have HT : Hid (∀ W : World, W.heap = wr.heap → XOwn 81 w.heap.size (W.setCell ⟨r, p * 2 + 1, none⟩ (.int .i64 (n + 1))) (.slice (some ⟨r, 0, none⟩) q rc) (m ++ [(s, n + 1)])) := Lib.hid (fun W hW => by
          have h2 : XOwn 81 w.heap.size W (.slice (some ⟨r, 0, none⟩) (m.length + 1) rc) (m ++ [(s, n)]) := by
            unfold XOwn World.ownsRow at hox ⊢
            rw [hW]; exact hox
          have := h2.turn (n + 1)
          rwa [← hp, ← hqq] at this)
        have hl2 : ∀ k : Int, (m ++ [(s, k)]).length = q := fun k => by rw [hqq, hp]; simp
        have HL2 := Lib.hid hl2
        have HF := Lib.hid (fits_snoc m s n x)
        obtain ⟨y, hy⟩ : ∃ y, y = IntKind.i64.wrap (s + n) := ⟨_, rfl⟩
        rw [← hy] at HF
        have HY := Lib.hid hy
        have hy' := hy.symm
        have hq0 : (0 : Int) ≤ (q : Int) - 1 := by omega
        have hq1 : (1 : Int) ≤ (q : Int) := by omega
        have hq2 : (q : Int) - 1 < (q : Int) := by omega
        have hq3 : ((q : Int) - 1).toNat = p := by omega
        have hq4 : IntKind.i64.wrap ((q : Int) - 1) = (q : Int) - 1 := IntWalk.i64_in _ (by omega)
        have HQ : Hid ((m ++ [(s, n)]).length = q) := Lib.hid (hl2 n)
        have HK2 : Hid (∀ d u, Kept NoB w ((wr.drewN d).setCell ⟨r, p * 2 + 1, none⟩ u)) := Lib.hid (fun d u => (HK.out.drewN d).setCell (p := ⟨r, p * 2 + 1, none⟩) (.inr hB') u)
        clear hox hp hq hqq hy hl2 hli hrow
        by_cases hf : n < 8 ∧ y = x
        · have HS2 : Hid (exts (bs.take (j + 1)) = m ++ [(s, n + 1)]) := Lib.hid (by rw [HS.out, addB_last m s n x hf.1 (by rw [← HY.out]; exact hf.2)])
          have d1 : decide (n < 8) = true := decide_eq_true hf.1
          have d2 : (y == x) = true := by rw [hf.2]; simp
          have hn9 : n < 8 := hf.1
          clear hf
          go_wp2
          go_quiet (fail)
          go_wp2
          go_roundw
          case rel => exact ⟨j + 1, some ⟨r, 0, none⟩, rc, by omega, by go_num, (by rw [HS2.out, HL2.out] <;> rfl), (by rw [HS2.out, HL2.out]; exact HT.out _ rfl), HK2.out _ _⟩
          case measure => simp [intOf]; omega
        · have HS2 : Hid (exts (bs.take (j + 1)) = (m ++ [(s, n)]) ++ [(x, 1)]) := Lib.hid (by
            rw [HS.out, addB_new]
            rw [HF.out]
            by_cases h1 : n < 8
            · rw [decide_eq_false (fun h => hf ⟨h1, h⟩), Bool.and_false]
            · rw [decide_eq_false h1, Bool.false_and])
          have HO1 := Lib.hid (HO.out.no ((Kept.refl NoB wr).alloc (.cells #[.int .i64 x, .int .i64 1] 81)))
          have HB1 := Lib.hid (heap_alloc_new wr (.cells #[.int .i64 x, .int .i64 1] 81))
          have HSZ : Hid (w.heap.size ≤ (wr.alloc (.cells #[.int .i64 x, .int .i64 1] 81)).heap.size) := Lib.hid (by simp; omega)
          by_cases h1 : n < 8
          · have d1 : decide (n < 8) = true := decide_eq_true h1
            have d2 : (y == x) = false := by rw [beq_eq_false_iff_ne]; exact fun h => hf ⟨h1, h⟩
            clear hf
            go_wp2
            go_quiet (fail)
            go_wp2_with (at_builtin; refine wpList_append_x Try.underlying45 hi0 hz0 hz1 hz2 rfl _ rfl (.tmp 49) (.tmp 52) rfl w.heap.size (.slice (some ⟨r, 0, none⟩) q rc) (m ++ [(s, n)]) rfl (HO1.out.drewN _) wr.heap.size (x, 1) rfl HB1.out (by rw [HQ.out]; omega) HSZ.out ?_; intro a1 d1' w3 hown1 hg1; have HP := Lib.hid hown1; have HK3 := Lib.hid (((HK.out.drewN _).alloc _).grown hg1 (fun b hb => .inr (World.ownsRow.lt HO.out b hb).1)); clear hown1 hg1)
            go_roundw
            case rel => exact ⟨j + 1, a1, d1', by omega, by go_num, (by rw [HS2.out]; simp), (by rw [HS2.out, List.length_append]; exact HP.out), HK3.out⟩
            case measure => simp [intOf]; omega
          · have d1 : decide (n < 8) = false := decide_eq_false h1
            clear hf h1
            go_wp2
            go_quiet (fail)
            go_wp2_with (at_builtin; refine wpList_append_x Try.underlying45 hi0 hz0 hz1 hz2 rfl _ rfl (.tmp 49) (.tmp 52) rfl w.heap.size (.slice (some ⟨r, 0, none⟩) q rc) (m ++ [(s, n)]) rfl (HO1.out.drewN _) wr.heap.size (x, 1) rfl HB1.out (by rw [HQ.out]; omega) HSZ.out ?_; intro a1 d1' w3 hown1 hg1; have HP := Lib.hid hown1; have HK3 := Lib.hid (((HK.out.drewN _).alloc _).grown hg1 (fun b hb => .inr (World.ownsRow.lt HO.out b hb).1)); clear hown1 hg1)
            go_roundw
            case rel => exact ⟨j + 1, a1, d1', by omega, by go_num, (by rw [HS2.out]; simp), (by rw [HS2.out, List.length_append]; exact HP.out), HK3.out⟩
            case measure => simp [intOf]; omega
    · obtain rfl : j = bs.length := by omega
      have HE := Lib.hid (XE.mk HO.out HK.out)
      rw [HLE.out, List.take_length] at HE
      rw [HLE.out, List.take_length]
      go_wp2
      go_ret
      exact HE.out
end Go.Proofs.Ytbacnkndllifaaa
