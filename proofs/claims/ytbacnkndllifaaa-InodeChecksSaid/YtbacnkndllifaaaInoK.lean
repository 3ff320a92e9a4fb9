/-
  The chapter's inodes: Of.
-/
import Derived.Test.YtbacnkndllifaaaInoJ
import Derived.BigRegion
import Derived.Deep.RegionLaw
namespace Go.Proofs.Ytbacnkndllifaaa
open Go.RowKit
set_option linter.unusedVariables false

theorem wrap_congr {a b : Int} (h : IntKind.i64.wrap a = IntKind.i64.wrap b) (k : Int) : IntKind.i64.wrap (a + k) = IntKind.i64.wrap (b + k) := by
  rw [IntKind.wrap_i64, IntKind.wrap_i64] at h ⊢
  omega
/-- The last extent ends where the block behind the last one is. -/
theorem exts_tail {bs : List Int} {j : Nat} (h0 : 0 < j) (hj : j ≤ bs.length) (hb : ∀ x ∈ bs, -9223372036854775808 ≤ x ∧ x ≤ 9223372036854775807) : ∃ m s n, exts (bs.take j) = m ++ [(s, n)] ∧ IntKind.i64.wrap (s + n) = IntKind.i64.wrap (bs.getD (j - 1) 0 + 1) := by
  obtain ⟨i, rfl⟩ : ∃ i, j = i + 1 := ⟨j - 1, by omega⟩
  have hx : bs.getD i 0 ∈ bs := getD_mem28 (by omega)
  rw [take_snoc (by omega), exts_snoc, show i + 1 - 1 = i by omega]
  obtain ⟨x, hxx⟩ : ∃ x, x = bs.getD i 0 := ⟨_, rfl⟩
  rw [← hxx] at hx ⊢
  obtain ⟨b0, b1⟩ := hb x hx
  obtain ⟨L, hL⟩ : ∃ L, L = exts (bs.take i) := ⟨_, rfl⟩
  rw [← hL]
  cases hf : fits28 L x with
  | false => rw [addB_new hf]; exact ⟨L, x, 1, rfl, rfl⟩
  | true =>
    have hli : L ≠ [] := by intro h; rw [h] at hf; cases hf
    obtain ⟨m, ⟨s, n⟩, rfl⟩ := snoc28 hli
    rw [fits_snoc] at hf
    simp only [Bool.and_eq_true, decide_eq_true_eq] at hf
    rw [addB_last m s n x hf.1 hf.2]
    refine ⟨m, s, n + 1, rfl, ?_⟩
    have := wrap_congr (a := s + n) (b := x) (by rw [hf.2, wr28 b0 b1]) 1
    rw [← this]; congr 1; omega
/-- An inode in a block of its own. -/
def IAt (t : TypeId) (w : World) (g : Nat) (m s : Int) (v : Value) : Prop := w.heap[g]? = some (.cells #[.int .i64 m, .int .i64 s, v] t (0, 0))
theorem IAt.set2 {t : TypeId} {w : World} {g : Nat} {m s : Int} {v : Value} (h : IAt t w g m s v) (u : Value) : IAt t (w.setCell ⟨g, 2, none⟩ u) g m s u := by
  unfold IAt at h ⊢
  rw [heap_setCell_same w g 2 _ _ _ h]; rfl
theorem IAt.kept {t : TypeId} {S : Nat → Prop} {w w' : World} {g : Nat} {m s : Int} {v : Value} (h : IAt t w g m s v) (hk : Kept S w w') (hs : ¬ S g) : IAt t w' g m s v := hk.heap hs h
theorem own_step {te t : TypeId} {w0 wr W w3 : World} {B g6 g8 : Nat} {v z : Value} {L : List Xt} {m s : Int} (HO : XOwn te B wr v L) (hB : w0.heap.size ≤ B) (hte : te ≠ t) (hK : Kept NoB w0 wr) (hkW : Kept NoB wr W) (hg : W.grownBy w3 v.ownBlock)
    (h8 : IAt t wr g8 m s v) (h6 : IAt t wr g6 0 0 z) : IAt t w3 g8 m s v ∧ IAt t w3 g6 0 0 z ∧ Kept NoB w0 w3 := by
  have n8 := own_ne HO h8 hte
  have n6 := own_ne HO h6 hte
  have hk : Kept (fun b => some b = v.ownBlock) wr w3 := (hkW.mono (fun _ _ h => h.elim)).grown hg (fun b hb => .inl hb.symm)
  exact ⟨h8.kept hk n8, h6.kept hk n6, hK.trans hk (fun i hi hx => absurd (World.ownsRow.lt HO i hx.symm).1 (by omega))⟩
theorem own_store {te t : TypeId} {w0 w3 : World} {B g6 g8 : Nat} {v u z : Value} {L : List Xt} {m s : Int} (HO : XOwn te B w3 u L) (hte : te ≠ t) (h8 : IAt t w3 g8 m s v) (h6 : IAt t w3 g6 0 0 z) (h68 : g6 ≠ g8) (hK : Kept NoB w0 w3) (h08 : w0.heap.size ≤ g8) :
    XOwn te B (w3.setCell ⟨g8, 2, none⟩ u) u L ∧ IAt t (w3.setCell ⟨g8, 2, none⟩ u) g8 m s u ∧ IAt t (w3.setCell ⟨g8, 2, none⟩ u) g6 0 0 z ∧ Kept NoB w0 (w3.setCell ⟨g8, 2, none⟩ u) := by
  have hset : Kept (fun i => i = g8) w3 (w3.setCell ⟨g8, 2, none⟩ u) := (Kept.refl (fun i => i = g8) w3).setCell (p := ⟨g8, 2, none⟩) (.inl rfl) _
  have n8 := own_ne HO h8 hte
  exact ⟨HO.kept hset (fun k hk he => n8 (by rw [hk, he])), h8.set2 u, h6.kept hset h68, hK.setCell (p := ⟨g8, 2, none⟩) (.inr h08) _⟩
set_option maxRecDepth 100000 in
theorem rOf_bad (m s : Int) (v : Value) (bs : List Int) (w : World) (hm : m ≠ 1 ∧ m ≠ 2) :
    Calls Try.prog 45 #[.int .i64 m, .int .i64 s, v] w (IRes 1 0 0 [] w) := by
  have hk0 := (Kept.refl NoB w).alloc (.cells #[.int .i64 0, .int .i64 0, .slice none 0 0] 43)
  have HK0 := Lib.hid hk0
  obtain ⟨c0, c1, c2⟩ := cells3 (heap_alloc_new w (.cells #[.int .i64 0, .int .i64 0, .slice none 0 0] 43))
  have d1 : (m != 1) = true := bne_iff_ne.2 hm.1
  have d2 : (m != 2) = true := bne_iff_ne.2 hm.2
  clear hm hk0
  go_enter Try.func45, Try.ntmps45
  go_wp2
  exact bodyPost_ret (v := .tuple #[iv28 0 0 (.slice none 0 0), .int .i64 1]) (by simp [results, Try.results45, go_sem, c0, c1, c2]) rfl ⟨none, 0, rfl, XSl.nil _ _, HK0.out⟩
set_option maxRecDepth 100000 in
set_option maxHeartbeats 20000000 in
theorem rOf_any (m s : Int) (v : Value) (bs : List Int) (F : Nat → Prop) (w : World) (h : NSl w F v bs) (hl : bs.length ≤ 1000) (hm : m = 1 ∨ m = 2) (hb : ∀ x ∈ bs, -9223372036854775808 ≤ x ∧ x ≤ 9223372036854775807) :
    Calls Try.prog 45 #[.int .i64 m, .int .i64 s, v] w (IRes (ofE m s bs) (ofR m s bs).1 (ofR m s bs).2.1 (ofR m s bs).2.2 w) := by
  obtain ⟨i0, hi0, hz0, hz1, hz2⟩ := info_parts info_rxt
  obtain ⟨a, cap, rfl, hca, hcm, _⟩ := id h
  have hm0 : m ≠ 0 := by rcases hm with rfl | rfl <;> decide
  have hr : ofR m s bs = if chk28 m s (exts bs) = 0 then (m, s, exts bs) else (0, 0, []) := by unfold ofR ofE; rw [if_neg hm0]
  rw [show ofE m s bs = chk28 m s (exts bs) by unfold ofE; rw [if_neg hm0], hr]
  have hk0 := ((Kept.refl NoB w).alloc (.cells #[.int .i64 0, .int .i64 0, .slice none 0 0] 43)).alloc (.cells #[.int .i64 m, .int .i64 s, .slice none 0 0] 43)
  have HK0 := Lib.hid hk0
  have HB6 : Hid (((w.alloc (.cells #[.int .i64 0, .int .i64 0, .slice none 0 0] 43)).alloc (.cells #[.int .i64 m, .int .i64 s, .slice none 0 0] 43)).heap[w.heap.size]? = some (.cells #[.int .i64 0, .int .i64 0, .slice none 0 0] 43 (0, 0))) := Lib.hid (((Kept.refl NoB _).alloc _).heap (fun h => h) (heap_alloc_new w (.cells #[.int .i64 0, .int .i64 0, .slice none 0 0] 43)))
  have hb8 := heap_alloc_new (w.alloc (.cells #[.int .i64 0, .int .i64 0, .slice none 0 0] 43)) (.cells #[.int .i64 m, .int .i64 s, .slice none 0 0] 43)
  rw [show (w.alloc (.cells #[.int .i64 0, .int .i64 0, .slice none 0 0] 43)).heap.size = w.heap.size + 1 by simp] at hb8
  have HB8 := Lib.hid hb8
  have HN := Lib.hid h
  have HBD := Lib.hid hb
  have d12 : ((m != 1) && (m != 2)) = false := by rcases hm with rfl | rfl <;> rfl
  have HLX := Lib.hid (exts_len bs)
  have HCK := Lib.hid (fun u W (hx : XSl W (fun _ => True) u (exts bs)) => rCheck_any m s u (exts bs) _ W hx (by have := exts_len bs; omega))
  obtain ⟨er, her⟩ : ∃ er, er = chk28 m s (exts bs) := ⟨_, rfl⟩
  rw [← her] at HCK ⊢
  obtain ⟨R, hR⟩ : ∃ R : Int × Int × List Xt, R = if er = 0 then (m, s, exts bs) else (0, 0, []) := ⟨_, rfl⟩
  have HR := Lib.hid hR
  rw [← hR]
  obtain ⟨RM, RS, RL⟩ := R
  simp only
  clear hR
  have hm12 : (m != 1) = false ∨ (m != 1) = true ∧ (m != 2) = false := by rcases hm with rfl | rfl; exact .inl rfl; exact .inr ⟨rfl, rfl⟩
  clear hm hm0 hr h hk0 hb8 hb her d12
  rcases hm12 with d1 | ⟨d1, d2⟩
  all_goals
    go_enter Try.func45, Try.ntmps45
    go_wp2
    go_loopw [9] (fun i wr => ∃ (j : Nat) (a : Option Addr) (c : Nat), j ≤ bs.length ∧ i = .int .i64 j ∧ IAt 43 wr (w.heap.size + 1) m s (.slice a (exts (bs.take j)).length c) ∧ XOwn 80 w.heap.size wr (.slice a (exts (bs.take j)).length c) (exts (bs.take j)) ∧ IAt 43 wr w.heap.size 0 0 (.slice none 0 0) ∧ Kept NoB w wr) (fun i _ => bs.length - (intOf i).toNat)
    case atStart => exact ⟨0, none, 0, by omega, rfl, HB8.out, XOwn.nil _ _ _, HB6.out, HK0.out⟩
    case round =>
      obtain ⟨j, ra, rc, hj, rfl, hb8, hown, hb6, hkk⟩ := hrel
      have HK := Lib.hid hkk
      have hel := Nat.le_trans (exts_len (bs.take j)) (List.length_take_le' j bs)
      have HLN := Lib.hid (exts_lens (bs.take j))
      have HTL := Lib.hid (fun h0 => exts_tail (j := j) h0 hj HBD.out)
      obtain ⟨L, hL⟩ : ∃ L, L = exts (bs.take j) := ⟨_, rfl⟩
      rw [← hL] at hown hel HLN hb8 HTL
      have HLE := Lib.hid hL
      have HO := Lib.hid hown
      have HB8' := Lib.hid hb8
      have HB6' := Lib.hid hb6
      have hsz := hkk.size
      obtain ⟨e0, e1, e2⟩ := cells3 hb8
      clear hown hkk hL hb6
      by_cases hlt : j < bs.length
      · obtain ⟨b, o, rfl, _, _, hcell⟩ := (HN.out.kept HK.out (fun _ _ _ h => h)).at_ hlt
        obtain ⟨x, hx⟩ : ∃ x, x = bs.getD j 0 := ⟨_, rfl⟩
        rw [← hx] at hcell
        have HS : Hid (exts (bs.take (j + 1)) = addB L x) := Lib.hid (by rw [take_snoc hlt, exts_snoc, ← HLE.out, hx])
        have hj0 : (0 : Int) ≤ (j : Int) := by omega
        have hj1 : (j : Int) < (bs.length : Int) := by omega
        have f8 := frz3 hb8 2
        have hg8 := heap_lt hb8
        have hg6 : w.heap.size < wr.heap.size := by omega
        have e2a : ∀ n, ((wr.drewN n).alloc (.cells #[.int .i64 x, .int .i64 1] 80)).cell? ⟨w.heap.size + 1, 2, none⟩ = some (.slice ra L.length rc) := fun n => cell_alloc (w := wr.drewN n) e2 _
        clear hx
        by_cases hj2 : 0 < j
        · skip
          obtain ⟨mm, ss, nn, hLm, hwy⟩ := HTL.out hj2
          subst hLm
          obtain ⟨b', o', he', _, _, hcell'⟩ := (HN.out.kept HK.out (fun _ _ _ h => h)).at_ (show j - 1 < bs.length by omega)
          injection he' with he'
          injection he' with ee1 ee2
          subst ee1 ee2
          obtain ⟨y, hy⟩ : ∃ y, y = bs.getD (j - 1) 0 := ⟨_, rfl⟩
          rw [← hy] at hcell' hwy
          obtain ⟨p, hp⟩ : ∃ p, p = mm.length := ⟨_, rfl⟩
          have hq : (mm ++ [(ss, nn)]).length = p + 1 := by rw [hp]; simp
          obtain ⟨q, hqq⟩ : ∃ q, q = p + 1 := ⟨_, rfl⟩
          rw [hq] at HO hel HB8' e2 e2a
          rw [← hqq] at HO hel HB8' e2 e2a
          obtain ⟨hn1, hn8⟩ := HLN.out (ss, nn) (by simp)
          simp only at hn1 hn8
          have hox := HO.out
          rw [hqq, hp] at hox
          have hrow : wr.ownsRow w.heap.size 80 2 (.slice ra (mm.length + 1) rc) (mm.length + 1) (celX (mm ++ [(ss, nn)])) := by have := hox; unfold XOwn at this; rwa [show (mm ++ [(ss, nn)]).length = mm.length + 1 by simp] at this
          obtain ⟨r, cap', hv', hB', hlt'⟩ := World.ownsRow.form hrow (by omega)
          injection hv' with hv' _ hv''
          subst hv' hv''
          obtain ⟨r', o'', hr', _, _, x0, x1⟩ := hox.sl.at_ (j := mm.length) (by simp)
          injection hr' with hr'
          injection hr' with hr1 hr2
          subst hr1 hr2
          rw [xth_last, Nat.zero_add, ← hp] at x0 x1
          simp only at x0 x1
          have f1 : wr.frozen? ⟨r, p * 2 + 1, none⟩ = false := World.ownsRow.frozenAt hrow _
          have HT : Hid (∀ W : World, W.heap = wr.heap → XOwn 80 w.heap.size (W.setCell ⟨r, p * 2 + 1, none⟩ (.int .i64 (nn + 1))) (.slice (some ⟨r, 0, none⟩) q rc) (mm ++ [(ss, nn + 1)])) := Lib.hid (fun W hW => by
            have h2 : XOwn 80 w.heap.size W (.slice (some ⟨r, 0, none⟩) (mm.length + 1) rc) (mm ++ [(ss, nn)]) := by
              unfold XOwn World.ownsRow at hox ⊢
              rw [hW]; exact hox
            have := h2.turn (nn + 1)
            rwa [← hp, ← hqq] at this)
          have n8 : r ≠ w.heap.size + 1 := fun h => own_ne HO.out HB8'.out (by decide) (by rw [← h]; rfl)
          have n6 : r ≠ w.heap.size := fun h => own_ne HO.out HB6'.out (by decide) (by rw [← h]; rfl)
          have HSE : Hid (∀ (d : Nat) (u : Value), IAt 43 ((wr.drewN d).setCell ⟨r, p * 2 + 1, none⟩ u) (w.heap.size + 1) m s (.slice (some ⟨r, 0, none⟩) q rc) ∧ IAt 43 ((wr.drewN d).setCell ⟨r, p * 2 + 1, none⟩ u) w.heap.size 0 0 (.slice none 0 0) ∧ Kept NoB w ((wr.drewN d).setCell ⟨r, p * 2 + 1, none⟩ u)) := Lib.hid (fun d u => by
            have hset : Kept (fun i => i = r) wr ((wr.drewN d).setCell ⟨r, p * 2 + 1, none⟩ u) := ((Kept.refl (fun i => i = r) wr).drewN d).setCell (p := ⟨r, p * 2 + 1, none⟩) (.inl rfl) _
            exact ⟨HB8'.out.kept hset (fun h => n8 h.symm), HB6'.out.kept hset (fun h => n6 h.symm), (HK.out.drewN d).setCell (p := ⟨r, p * 2 + 1, none⟩) (.inr hB') u⟩)
          have hl2 : ∀ k : Int, (mm ++ [(ss, k)]).length = q := fun k => by rw [hqq, hp]; simp
          have HL2 := Lib.hid hl2
          have HF := Lib.hid (fits_snoc mm ss nn x)
          obtain ⟨z, hz⟩ : ∃ z, z = IntKind.i64.wrap (y + 1) := ⟨_, rfl⟩
          rw [hwy, ← hz] at HF
          have HWZ : Hid (IntKind.i64.wrap (ss + nn) = z) := Lib.hid (by rw [hwy, hz])
          have hz' := hz.symm
          have hq0 : (0 : Int) ≤ (q : Int) - 1 := by omega
          have hq1 : (1 : Int) ≤ (q : Int) := by omega
          have hq2 : (q : Int) - 1 < (q : Int) := by omega
          have hq3 : ((q : Int) - 1).toNat = p := by omega
          have hq4 : IntKind.i64.wrap ((q : Int) - 1) = (q : Int) - 1 := IntWalk.i64_in _ (by omega)
          have hjq0 : (0 : Int) ≤ (j : Int) - 1 := by omega
          have hjq2 : (j : Int) - 1 < (bs.length : Int) := by omega
          have hjq3 : ((j : Int) - 1).toNat = j - 1 := by omega
          have hjq4 : IntKind.i64.wrap ((j : Int) - 1) = (j : Int) - 1 := IntWalk.i64_in _ (by omega)
          have r1 : decide ((0 : Int) < (j : Int)) = true := decide_eq_true (by omega)
          have r2 : decide (0 < j) = true := decide_eq_true hj2
          have HQ : Hid ((mm ++ [(ss, nn)]).length = q) := Lib.hid (hl2 nn)
          clear hox hp hq hqq hy hl2 hrow hwy hz hj2 HTL hb8
          by_cases hxz : x = z
          · have d3 : (x == z) = true := by simpa using hxz
            by_cases hn9 : nn < 8
            · have HS2 : Hid (exts (bs.take (j + 1)) = mm ++ [(ss, nn + 1)]) := Lib.hid (by rw [HS.out, addB_last mm ss nn x hn9 (by rw [HWZ.out, hxz])])
              have d4 : decide (nn < 8) = true := decide_eq_true hn9
              clear hxz
              go_wp2
              go_quiet (fail)
              go_wp2
              go_region
              go_wp2
              go_roundw
              case rel => exact ⟨j + 1, some ⟨r, 0, none⟩, rc, by omega, by go_num, (by rw [HS2.out, HL2.out]; exact (HSE.out _ _).1), (by rw [HS2.out, HL2.out]; exact HT.out _ rfl), (HSE.out _ _).2.1, (HSE.out _ _).2.2⟩
              case measure => simp [intOf]; omega
            · have HS2 : Hid (exts (bs.take (j + 1)) = (mm ++ [(ss, nn)]) ++ [(x, 1)]) := Lib.hid (by
                rw [HS.out, addB_new]
                rw [HF.out, decide_eq_false hn9, Bool.false_and])
              have d4 : decide (nn < 8) = false := decide_eq_false hn9
              clear hxz hn9
              go_wp2
              go_quiet (fail)
              go_wp2
              go_region_law (first
                          | (refine step_append_x Try.underlying41 hi0 hz0 hz1 hz2 rfl _ (by rfl) (.tmp 71) (.tmp 77) (by rfl) w.heap.size (.slice (some ⟨r, 0, none⟩) q rc) (mm ++ [(ss, nn)]) (by rfl) (by exact HO.out.no (((Kept.refl NoB wr).drewN _).alloc _)) _ (x, 1) (by rfl) (by exact heap_alloc_new _ _) (by rw [HQ.out]; omega) (by simp; omega) ?_; intro a3 c3 w3 hown3 hg3; rw [HQ.out] at hown3; rw [HQ.out]; obtain ⟨h8, h6, hk3⟩ := own_step HO.out (Nat.le_refl _) (by decide) HK.out (((Kept.refl NoB wr).drewN _).alloc _) hg3 HB8'.out HB6'.out; obtain ⟨_, _, q2⟩ := cells3 h8; have g8 := frz3 h8 2; have HE3 := Lib.hid (own_store hown3 (by decide) h8 h6 (by omega) hk3 (by omega)); clear h8 h6 hk3 hg3))
              all_goals
                go_wp2
                go_roundw
                case rel => exact ⟨j + 1, a3, c3, by omega, by go_num, (by rw [HS2.out, List.length_append, HQ.out]; exact HE3.out.2.1), (by rw [HS2.out, List.length_append, HQ.out]; exact HE3.out.1), HE3.out.2.2.1, HE3.out.2.2.2⟩
                case measure => simp [intOf]; omega
          · have HS2 : Hid (exts (bs.take (j + 1)) = (mm ++ [(ss, nn)]) ++ [(x, 1)]) := Lib.hid (by
              rw [HS.out, addB_new]
              rw [HF.out, decide_eq_false (p := z = x) (fun h => hxz h.symm), Bool.and_false])
            have d3 : (x == z) = false := by simpa using hxz
            clear hxz
            go_wp2
            go_quiet (fail)
            go_wp2
            go_region_law (first
                        | (refine step_append_x Try.underlying41 hi0 hz0 hz1 hz2 rfl _ (by rfl) (.tmp 71) (.tmp 77) (by rfl) w.heap.size (.slice (some ⟨r, 0, none⟩) q rc) (mm ++ [(ss, nn)]) (by rfl) (by exact HO.out.no (((Kept.refl NoB wr).drewN _).alloc _)) _ (x, 1) (by rfl) (by exact heap_alloc_new _ _) (by rw [HQ.out]; omega) (by simp; omega) ?_; intro a3 c3 w3 hown3 hg3; rw [HQ.out] at hown3; rw [HQ.out]; obtain ⟨h8, h6, hk3⟩ := own_step HO.out (Nat.le_refl _) (by decide) HK.out (((Kept.refl NoB wr).drewN _).alloc _) hg3 HB8'.out HB6'.out; obtain ⟨_, _, q2⟩ := cells3 h8; have g8 := frz3 h8 2; have HE3 := Lib.hid (own_store hown3 (by decide) h8 h6 (by omega) hk3 (by omega)); clear h8 h6 hk3 hg3))
            all_goals
              go_wp2
              go_roundw
              case rel => exact ⟨j + 1, a3, c3, by omega, by go_num, (by rw [HS2.out, List.length_append, HQ.out]; exact HE3.out.2.1), (by rw [HS2.out, List.length_append, HQ.out]; exact HE3.out.1), HE3.out.2.2.1, HE3.out.2.2.2⟩
              case measure => simp [intOf]; omega
        · obtain rfl : j = 0 := by omega
          have hL0 : L = [] := by rw [HLE.out]; rfl
          subst hL0
          have HS2 : Hid (exts (bs.take (0 + 1)) = [] ++ [(x, 1)]) := Lib.hid (by rw [HS.out, addB_new rfl])
          have hcell0 : wr.cell? ⟨b, o, none⟩ = some (.int .i64 x) := hcell
          have e2b : ∀ n, ((wr.drewN n).alloc (.cells #[.int .i64 x, .int .i64 1] 80)).cell? ⟨w.heap.size + 1, 2, none⟩ = some (.slice ra 0 rc) := e2a
          clear hj2
          go_wp2
          go_quiet (fail)
          go_wp2
          go_region_law (first
            | (refine step_append_x Try.underlying41 hi0 hz0 hz1 hz2 rfl _ (by rfl) (.tmp 71) (.tmp 77) (by rfl) w.heap.size (.slice ra 0 rc) [] (by rfl) (by exact HO.out.no (((Kept.refl NoB wr).drewN _).alloc _)) _ (x, 1) (by rfl) (by exact heap_alloc_new _ _) (by simp) (by simp; omega) ?_; intro a3 c3 w3 hown3 hg3; obtain ⟨h8, h6, hk3⟩ := own_step HO.out (Nat.le_refl _) (by decide) HK.out (((Kept.refl NoB wr).drewN _).alloc _) hg3 HB8'.out HB6'.out; obtain ⟨_, _, q2⟩ := cells3 h8; have g8 := frz3 h8 2; have HE3 := Lib.hid (own_store hown3 (by decide) h8 h6 (by omega) hk3 (by omega)); clear h8 h6 hk3 hg3))
          all_goals
            go_wp2
            go_roundw
            case rel => exact ⟨0 + 1, a3, c3, by omega, by go_num, (by rw [HS2.out]; exact HE3.out.2.1), (by rw [HS2.out]; exact HE3.out.1), HE3.out.2.2.1, HE3.out.2.2.2⟩
            case measure => simp [intOf]; omega
      · obtain rfl : j = bs.length := by omega
        rw [List.take_length] at HLE
        have HLL : Hid (L.length ≤ 1000) := Lib.hid (by have := HLX.out; rw [HLE.out]; omega)
        rw [← HLE.out] at HCK HR
        have HXL := Lib.hid HO.out.sl
        clear hb8
        have key : ∀ (rm rs : Int) (ru : Value) (rl : List Xt) (w3 : World) (q : Int), q = er → XSl w3 (fun k => w.heap.size ≤ k) ru rl → Kept NoB w w3 → IRes er rm rs rl w (.returned (.tuple #[iv28 rm rs ru, .int .i64 q])) w3 := fun rm rs ru rl w3 q hq h1 h2 => by
          subst hq
          obtain ⟨a, c, rfl, _⟩ := id h1
          exact ⟨a, c, rfl, h1, h2⟩
        have KEY := Lib.hid key
        clear key
        by_cases hz : er = 0
        · have hrr := HR.out
          rw [if_pos hz] at hrr
          injection hrr with hr1 hrr
          injection hrr with hr2 hr3
          subst hr1 hr2 hr3
          have HZ := Lib.hid hz.symm
          rw [hz] at HCK
          clear hz HR
          go_wp2_with (go_at_call 34; refine (HCK.out _ _ HXL.out.any).mono ?_; rintro e w3 ⟨rfl, hk⟩; have hc8 := cells3 (HB8'.out.kept hk (fun h => h)); obtain ⟨e0, e1, e2⟩ := hc8; have HC6 := Lib.hid (HB6'.out.kept hk (fun h => h)); obtain ⟨c0, c1, c2⟩ := cells3 HC6.out; have f0 := frz3 HC6.out 0; have f1 := frz3 HC6.out 1; have f2 := frz3 HC6.out 2; have HO3 := Lib.hid (HO.out.no hk); have HK3 := Lib.hid (HK.out.trans hk (fun _ _ h => h)); clear hk)
          have n6 := own_ne HO3.out HC6.out (by decide)
          obtain ⟨r0, r1, r2⟩ := cells3 (set3_heap HC6.out (.int .i64 RM) (.int .i64 RS) (.slice ra RL.length rc))
          exact bodyPost_ret (v := .tuple #[iv28 RM RS (.slice ra RL.length rc), .int .i64 0]) (by simp [results, Try.results45, go_sem, r0, r1, r2]) rfl (KEY.out _ _ _ _ _ _ HZ.out ((HO3.out.kept (set3_kept _ _ _ _ _) (fun k hk he => n6 (by rw [hk, he]))).sl) (HK3.out.trans (set3_kept _ _ _ _ _) (fun i hi he => absurd hi (by omega))))
        · have hrr := HR.out
          rw [if_neg hz] at hrr
          injection hrr with hr1 hrr
          injection hrr with hr2 hr3
          subst hr1 hr2 hr3
          have hne : (er != 0) = true := bne_iff_ne.2 hz
          clear hz HR
          go_wp2_with (go_at_call 34; refine (HCK.out _ _ HXL.out.any).mono ?_; rintro e w3 ⟨rfl, hk⟩; have HC6 := Lib.hid (HB6'.out.kept hk (fun h => h)); obtain ⟨c0, c1, c2⟩ := cells3 HC6.out; have f0 := frz3 HC6.out 0; have f1 := frz3 HC6.out 1; have f2 := frz3 HC6.out 2; have HK3 := Lib.hid (HK.out.trans hk (fun _ _ h => h)); clear hk)
          obtain ⟨r0, r1, r2⟩ := cells3 (set3_heap HC6.out (.int .i64 0) (.int .i64 0) (.slice none 0 0))
          exact bodyPost_ret (v := .tuple #[iv28 0 0 (.slice none 0 0), .int .i64 er]) (by simp [results, Try.results45, go_sem, r0, r1, r2]) rfl (KEY.out _ _ _ _ _ _ rfl (XSl.nil _ _) (HK3.out.trans (set3_kept _ _ _ _ _) (fun i hi he => absurd hi (by omega))))
end Go.Proofs.Ytbacnkndllifaaa
