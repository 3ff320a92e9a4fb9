/-
  catenaryref15: Clean, Dirty.
-/
import Derived.Test.YtnmclhgljpcjcaaVerK
import Derived.Test.YtnmclhgljpcjcaaVerE
namespace Go.Proofs.Ytnmclhgljpcjcaa
open Go.RowKit
set_option linter.unusedVariables false

theorem fldR15_q (a b : Int) (u : Value) (w : World) : (Instr.field 36 (.agg #[.int .u64 a, .int .u64 b, u]) 1).run Try.prog w = .ok (.int .u64 b) w := by kernel_rfl
theorem fldR15_r (a b : Int) (u : Value) (w : World) : (Instr.field 36 (.agg #[.int .u64 a, .int .u64 b, u]) 0).run Try.prog w = .ok (.int .u64 a) w := by kernel_rfl
theorem RDirty15 (w : World) (v : Value) (l : List Vn) (done : Int) (F : Nat → Prop) (h : VsAt w F v l) (h0 : 0 ≤ done) : Calls Try.prog 32 #[v, .int .u64 done] w fun e w' => e = .returned (.bool (dirtyB l done)) ∧ Kept NoB w w' := by
  obtain ⟨a, c, rfl⟩ := h.form
  have HL := Lib.hid (RLast15_any w _ l F h)
  by_cases hl : l = []
  · subst hl
    have HD : Hid (dirtyB [] done = false) := Lib.hid (decide_eq_false (by show ¬ done < 0; omega))
    have hz : ([] : List Vn).length = 0 := rfl
    rw [hz]
    clear h hz HL
    go_enter Try.func32, Try.ntmps32
    go_wp2
    go_ret
    exact ⟨by rw [HD.out]; rfl, Kept.refl _ _⟩
  · have hp : 0 < l.length := List.length_pos_iff.2 hl
    obtain ⟨bb, hbb⟩ : ∃ b, b = dirtyB l done := ⟨_, rfl⟩
    have HBB := Lib.hid hbb
    rw [← hbb]
    clear h hbb hl
    go_enter Try.func32, Try.ntmps32
    go_wp2_with fail
    refine HL.out.mono ?_
    rintro e w2 ⟨v2, rfl, hv2, hk2⟩
    have HK2 := Lib.hid hk2
    obtain ⟨⟨y0, y1, y2⟩, hy⟩ : ∃ y, y = lastV l := ⟨_, rfl⟩
    have HY := Lib.hid hy
    rw [← hy] at hv2
    obtain ⟨u2, rfl, hu2⟩ := hv2
    obtain ⟨ua, uc, rfl, _⟩ := hu2
    have hfl := fldR15_q y0 y1 (.slice ua y2.length uc)
    clear hk2 hy
    go_wp2
    go_ret
    refine ⟨?_, HK2.out⟩
    rw [HBB.out]
    unfold dirtyB
    rw [← HY.out]
    rfl
theorem three15_other {w : World} {b k : Nat} {o' : Obj} (h : w.heap[k]? = some o') (hk : b ≠ k) (o : Nat) (x y z : Value) : (three15 w b o x y z).heap[k]? = some o' :=
  blkV_set_other (blkV_set_other (blkV_set_other h _ _ hk) _ _ hk) _ _ hk
def RcRel (w : World) (l : List Vn) (done : Int) (F : Nat → Prop) (iv : Value) (wr : World) : Prop :=
  ∃ (k : Nat) (x : Vn) (u : Value), k ≤ l.length ∧ iv = .int .i64 k ∧ x = cleanV (l.take k) done ∧ wr.heap[w.heap.size]? = some (.cells #[.int .u64 0, .int .u64 0, .slice none 0 0] 36 (0, 0)) ∧ wr.heap[w.heap.size + 1]? = some (.cells #[.int .u64 x.r, .int .u64 x.q, u] 36 (0, 0)) ∧ BSl wr F u x.d ∧ Kept NoB w wr
set_option maxRecDepth 100000 in
set_option maxHeartbeats 1000000 in
theorem RClean15 (w : World) (v : Value) (l : List Vn) (done : Int) (F : Nat → Prop) (h : VsAt w F v l) (hasc : Asc l) (hF : ∀ k, F k → k < w.heap.size) : Calls Try.prog 30 #[v, .int .u64 done] w fun e w' => ∃ v', e = .returned v' ∧ VnV w' F v' (cleanV l done) ∧ Kept NoB w w' := by
  obtain ⟨a, c, rfl⟩ := h.form
  have hlm : l.length ≤ 9223372036854775807 := by have := h.len; unfold maxLen at this; omega
  have hk2 := ((Kept.refl NoB w).alloc (.cells #[.int .u64 0, .int .u64 0, .slice none 0 0] 36)).alloc (.cells #[.int .u64 0, .int .u64 0, .slice none 0 0] 36)
  have h1 := blkV_alloc (heap_alloc_new w (.cells #[.int .u64 0, .int .u64 0, .slice none 0 0] 36)) (.cells #[.int .u64 0, .int .u64 0, .slice none 0 0] 36)
  have h2 := heap_alloc_new (w.alloc (.cells #[.int .u64 0, .int .u64 0, .slice none 0 0] 36)) (.cells #[.int .u64 0, .int .u64 0, .slice none 0 0] 36)
  rw [show (w.alloc (.cells #[.int .u64 0, .int .u64 0, .slice none 0 0] 36)).heap.size = w.heap.size + 1 by simp] at h2
  have HV := Lib.hid h
  have HA := Lib.hid hasc
  have HF := Lib.hid hF
  have H0 : Hid (RcRel w l done F (.int .i64 0) ((w.alloc (.cells #[.int .u64 0, .int .u64 0, .slice none 0 0] 36)).alloc (.cells #[.int .u64 0, .int .u64 0, .slice none 0 0] 36))) := Lib.hid ⟨0, vn0, .slice none 0 0, Nat.zero_le _, rfl, rfl, h1, h2, BSl.nil _ _, hk2⟩
  clear h hasc hF h1 h2 hk2
  go_enter Try.func30, Try.ntmps30
  go_wp2
  go_loopw [6] (RcRel w l done F) (fun i _ => l.length - (RowKit.intOf i).toNat)
  case atStart => exact H0.out
  case round =>
    obtain ⟨k, x, u, hk, rfl, hx, hr1, hr2, hu, hK⟩ := hrel
    have HX := Lib.hid hx
    have HR1 := Lib.hid hr1
    have HR2 := Lib.hid hr2
    have HU := Lib.hid hu
    have HK := Lib.hid hK
    have hk0 : (0 : Int) ≤ (k : Int) := by omega
    obtain ⟨x0, x1, x2⟩ := x
    simp only at hr2 hu HU HR2
    obtain ⟨ua, uc, rfl, _⟩ := hu
    obtain ⟨c0, c1, c2⟩ := cells3v hr1
    obtain ⟨d0, d1, d2⟩ := cells3v hr2
    have z1 := blkV_frozen hr1
    have z2 := blkV_frozen hr2
    have hne : ¬ w.heap.size + 1 = w.heap.size := by omega
    have hne2 : ¬ w.heap.size = w.heap.size + 1 := by omega
    have hvr := HV.out.no hK
    clear hx hr1 hr2 hK
    by_cases hlt : k < l.length
    · have hk1 : (k : Int) < (l.length : Int) := by omega
      have hcs := clean_step HA.out done hlt
      obtain ⟨b, o, rfl, hFb, hb, u', e0, e1, e2, hd⟩ := hvr.at_ hlt
      obtain ⟨⟨y0, y1, y2⟩, hy⟩ : ∃ y, y = nthV l k := ⟨_, rfl⟩
      rw [← hy] at e0 e1 hd hcs
      simp only at e0 e1 hd hcs
      have HD := Lib.hid hd
      obtain ⟨va, vc, rfl, _⟩ := hd
      have hbw : b < w.heap.size := HF.out b hFb
      have hq1 : ¬ w.heap.size + 1 = b := by omega
      have hq2 : ¬ b = w.heap.size + 1 := by omega
      clear hvr hy hFb hb
      by_cases hq : y1 ≤ done
      · rw [if_pos hq] at hcs
        have HC := Lib.hid hcs
        have hqb : decide (y1 ≤ done) = true := decide_eq_true hq
        clear hcs
        go_wp2
        refine ⟨⟨k + 1, ⟨y0, y1, y2⟩, .slice va y2.length vc, by omega, by go_num, HC.out.symm, ?_, ?_, ?_, ?_⟩, by simp [RowKit.intOf]; omega⟩
        · exact three15_other HR1.out hne 0 _ _ _
        · exact three15_at HR2.out _ _ _
        · exact HD.out.kept (S := fun k => k = w.heap.size + 1) ((Kept.refl (fun k => k = w.heap.size + 1) wr).three15 (.inl rfl) 0 _ _ _) (fun k h e => by have := HF.out k h; omega)
        · exact HK.out.three15 (.inr (by omega)) 0 _ _ _
      · rw [if_neg hq] at hcs
        have HC := Lib.hid hcs
        have hqb : decide (y1 ≤ done) = false := decide_eq_false hq
        clear hcs
        go_wp2
        exact ⟨⟨k + 1, ⟨x0, x1, x2⟩, .slice ua x2.length uc, by omega, by go_num, by rw [HC.out]; exact HX.out, HR1.out, HR2.out, HU.out, HK.out⟩, by simp [RowKit.intOf]; omega⟩
    · obtain rfl : k = l.length := by omega
      have hxx : (⟨x0, x1, x2⟩ : Vn) = cleanV l done := by rw [HX.out, List.take_length]
      have HXX := Lib.hid hxx
      clear hxx hvr
      go_wp2
      clear c0 c1 c2 d0 d1 d2 z1 z2
      obtain ⟨r0, r1, r2, hO, hK⟩ := fin15v HR1.out (Nat.le_refl _) HK.out (fun k h e => by have := HF.out k h; omega) ⟨x0, x1, x2⟩ _ rfl HU.out
      unfold three15 at r0 r1 r2 hO hK
      simp only [Nat.zero_add] at r0 r1 r2 hO hK
      generalize hW : World.setCell _ _ _ = W3 at r0 r1 r2 hO hK ⊢
      exact bodyPost_ret (v := .agg #[.int .u64 x0, .int .u64 x1, .slice ua x2.length uc]) (by simp [results, Try.results30, go_sem, r0, r1, r2]) rfl ⟨_, rfl, HXX.out ▸ hO, hK⟩
end Go.Proofs.Ytnmclhgljpcjcaa
