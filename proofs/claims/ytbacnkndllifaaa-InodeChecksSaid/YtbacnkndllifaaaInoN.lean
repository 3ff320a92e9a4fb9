/-
  Layer 28: an inode of the chapter's as the program's (ours).
-/
import Derived.Test.YtbacnkndllifaaaInoM
namespace Go.Proofs.Ytbacnkndllifaaa
open Go.RowKit
set_option linter.unusedVariables false

def OurE (m s : Int) (l : List Xt) (w : World) (e : Ending) (w' : World) : Prop := ∃ a c, e = .returned (iv28 m s (.slice a l.length c)) ∧ XSl w' (fun k => w.heap.size ≤ k) (.slice a l.length c) l ∧ Kept NoB w w'
theorem OurE.mk {m s : Int} {l : List Xt} {w w' : World} {u : Value} (h : XSl w' (fun k => w.heap.size ≤ k) u l) (hk : Kept NoB w w') : OurE m s l w (.returned (iv28 m s u)) w' := by
  obtain ⟨a, c, rfl, _⟩ := id h
  exact ⟨a, c, rfl, h, hk⟩
theorem IAt.own {te t : TypeId} {B g : Nat} {wr W w3 : World} {m s : Int} {z v : Value} {L : List Xt} (h : IAt t wr g m s z) (HO : XOwn te B wr v L) (hte : te ≠ t) (hkW : Kept NoB wr W) (hg : W.grownBy w3 v.ownBlock) : IAt t w3 g m s z :=
  h.kept (((hkW.mono (fun _ _ h => h.elim)).grown hg (fun b hb => .inl hb.symm)) : Kept (fun b => some b = v.ownBlock) wr w3) (own_ne HO h hte)
theorem IAt.other {t : TypeId} {g g' o : Nat} {w : World} {m s : Int} {z u : Value} (h : IAt t w g m s z) (hg : g ≠ g') : IAt t (w.setCell ⟨g', o, none⟩ u) g m s z :=
  h.kept ((Kept.refl (fun i => i = g') w).setCell (p := ⟨g', o, none⟩) (.inl rfl) u) hg
set_option maxRecDepth 100000 in
set_option maxHeartbeats 20000000 in
theorem ours_any (m s : Int) (u : Value) (l : List Xt) (F : Nat → Prop) (w : World) (h : XSl w F u l) (hl : l.length ≤ 1000) :
    Calls Try.prog 32 #[iv28 m s u] w (OurE m s l w) := by
  obtain ⟨i0, hi0, hz0, hz1, hz2⟩ := info_parts info_xt
  obtain ⟨a, cap, rfl, hca, hcm, _⟩ := id h
  have hk0 := (((Kept.refl NoB w).alloc (.cells #[.int .i64 m, .int .i64 s, .slice a l.length cap] 43)).alloc (.cells #[.int .i64 0, .int .i64 0, .slice none 0 0] 47)).alloc (.cells #[.int .i64 m, .int .i64 s, .slice none 0 0] 47)
  have HK0 := Lib.hid hk0
  have hA := heap_alloc_new w (.cells #[.int .i64 m, .int .i64 s, .slice a l.length cap] 43)
  have hB := heap_alloc_new (w.alloc (.cells #[.int .i64 m, .int .i64 s, .slice a l.length cap] 43)) (.cells #[.int .i64 0, .int .i64 0, .slice none 0 0] 47)
  rw [show (w.alloc (.cells #[.int .i64 m, .int .i64 s, .slice a l.length cap] 43)).heap.size = w.heap.size + 1 by simp] at hB
  have hC := heap_alloc_new ((w.alloc (.cells #[.int .i64 m, .int .i64 s, .slice a l.length cap] 43)).alloc (.cells #[.int .i64 0, .int .i64 0, .slice none 0 0] 47)) (.cells #[.int .i64 m, .int .i64 s, .slice none 0 0] 47)
  rw [show ((w.alloc (.cells #[.int .i64 m, .int .i64 s, .slice a l.length cap] 43)).alloc (.cells #[.int .i64 0, .int .i64 0, .slice none 0 0] 47)).heap.size = w.heap.size + 1 + 1 by simp] at hC
  have hA3 := ((Kept.refl NoB _).alloc (.cells #[.int .i64 m, .int .i64 s, .slice none 0 0] 47)).heap (fun h => h) (((Kept.refl NoB _).alloc (.cells #[.int .i64 0, .int .i64 0, .slice none 0 0] 47)).heap (fun h => h) hA)
  have hB3 := ((Kept.refl NoB _).alloc (.cells #[.int .i64 m, .int .i64 s, .slice none 0 0] 47)).heap (fun h => h) hB
  have HA3 := Lib.hid hA3
  have HB3 := Lib.hid hB3
  have HC3 := Lib.hid hC
  have HX := Lib.hid h
  obtain ⟨c0, c1, c2⟩ := cells3 hA
  unfold maxLen at hcm
  clear h hk0 hA hB hC hA3 hB3
  go_enter Try.func32, Try.ntmps32
  go_wp2
  clear c0 c1 c2
  go_loopw [4] (fun i wr => ∃ (j : Nat) (ra : Option Addr) (rc : Nat), j ≤ l.length ∧ i = .int .i64 j ∧ IAt 47 wr (w.heap.size + 1 + 1) m s (.slice ra (l.take j).length rc) ∧ XOwn 81 w.heap.size wr (.slice ra (l.take j).length rc) (l.take j) ∧ IAt 47 wr (w.heap.size + 1) 0 0 (.slice none 0 0) ∧ IAt 43 wr w.heap.size m s (.slice a l.length cap) ∧ Kept NoB w wr) (fun i _ => l.length - (intOf i).toNat)
  case atStart => exact ⟨0, none, 0, by omega, rfl, HC3.out, XOwn.nil _ _ _, HB3.out, HA3.out, HK0.out⟩
  case round =>
    obtain ⟨j, ra, rc, hj, rfl, h8, hown, h6, h5, hkk⟩ := hrel
    have HK := Lib.hid hkk
    have HO := Lib.hid hown
    have H8 := Lib.hid h8
    have H6 := Lib.hid h6
    have H5 := Lib.hid h5
    have hsz := hkk.size
    have hg8 := heap_lt h8
    obtain ⟨b0, b1, b2⟩ := cells3 h5
    obtain ⟨e0, e1, e2⟩ := cells3 h8
    have f8 := frz3 h8 2
    have htl : (l.take j).length = j := by rw [List.length_take]; omega
    obtain ⟨L, hL⟩ : ∃ L, L = l.take j := ⟨_, rfl⟩
    rw [← hL] at HO H8 e2 htl
    rw [htl] at HO H8 e2
    have HLE := Lib.hid hL
    have HTL := Lib.hid htl
    clear hown h8 h6 h5 hkk hL htl
    by_cases hlt : j < l.length
    · obtain ⟨b, o, rfl, _, _, x0, x1⟩ := (HX.out.no HK.out).at_ hlt
      have hS : l.take (j + 1) = L ++ [xth l j] := by rw [xtake_snoc hlt, HLE.out]
      obtain ⟨x, hx⟩ : ∃ x, x = xth l j := ⟨_, rfl⟩
      rw [← hx] at x0 x1 hS
      obtain ⟨xs, xn⟩ := x
      simp only at x0 x1
      have HS := Lib.hid hS
      have hj0 : (0 : Int) ≤ (j : Int) := by omega
      have hj1 : (j : Int) < (l.length : Int) := by omega
      have e2a := cell_alloc e2 (.cells #[.int .i64 xs, .int .i64 xn] 81)
      have e2b : (wr.drew.alloc (.cells #[.int .i64 xs, .int .i64 xn] 81)).cell? ⟨w.heap.size + 1 + 1, 2, none⟩ = some (.slice ra j rc) := e2a
      clear hx hS
      go_wp2
      go_region_law (first
        | (refine step_append_x Try.underlying45 hi0 hz0 hz1 hz2 rfl _ (by rfl) (.tmp 18) (.tmp 32) (by rfl) w.heap.size (.slice ra j rc) L (by rfl) (by first | exact HO.out.no (((Kept.refl NoB wr).drew).alloc _) | exact HO.out.no (((Kept.refl NoB wr).alloc _).drew)) _ (xs, xn) (by rfl) (by first | exact heap_alloc_new _ _ | exact heap_alloc_new wr _) (by rw [HTL.out]; omega) (by simp; omega) ?_; intro a3 c3 w3 hown3 hg3; rw [HTL.out] at hown3; rw [HTL.out]; obtain ⟨h8, h6, hk3⟩ := own_step HO.out (Nat.le_refl _) (by decide) HK.out (by first | exact ((Kept.refl NoB wr).drew).alloc _ | exact ((Kept.refl NoB wr).alloc _).drew) hg3 H8.out H6.out; have h5 := Lib.hid (H5.out.own HO.out (by decide) (by first | exact ((Kept.refl NoB wr).drew).alloc _ | exact ((Kept.refl NoB wr).alloc _).drew) hg3); obtain ⟨_, _, q2⟩ := cells3 h8; have g8 := frz3 h8 2; have HE3 := Lib.hid (own_store hown3 (by decide) h8 h6 (by omega) hk3 (by omega)); have H53 := Lib.hid (h5.out.other (g' := w.heap.size + 1 + 1) (o := 2) (u := .slice a3 (j + 1) c3) (by omega)); clear h8 h6 h5 hk3 hg3))
      all_goals
        go_wp2
        go_roundw
        case rel => exact ⟨j + 1, a3, c3, by omega, by go_num, (by rw [HS.out, List.length_append, HTL.out]; exact HE3.out.2.1), (by rw [HS.out, List.length_append, HTL.out]; exact HE3.out.1), HE3.out.2.2.1, H53.out, HE3.out.2.2.2⟩
        case measure => simp [intOf]; omega
    · obtain rfl : j = l.length := by omega
      have hll : L = l := by rw [HLE.out, List.take_length]
      subst hll
      obtain ⟨z0, z1, z2⟩ := cells3 H6.out
      have f0 := frz3 H6.out 0
      have f1 := frz3 H6.out 1
      have f2 := frz3 H6.out 2
      have n6 := own_ne HO.out H6.out (by decide)
      go_wp2
      obtain ⟨r0, r1, r2⟩ := cells3 (set3_heap H6.out (.int .i64 m) (.int .i64 s) (.slice ra L.length rc))
      exact bodyPost_ret (v := iv28 m s (.slice ra L.length rc)) (by simp [results, Try.results32, go_sem, r0, r1, r2]) rfl (OurE.mk ((HO.out.kept (set3_kept _ _ _ _ _) (fun k hk he => n6 (by rw [hk, he]))).sl) (HK.out.trans (set3_kept _ _ _ _ _) (fun i hi he => absurd hi (by omega))))
end Go.Proofs.Ytbacnkndllifaaa
