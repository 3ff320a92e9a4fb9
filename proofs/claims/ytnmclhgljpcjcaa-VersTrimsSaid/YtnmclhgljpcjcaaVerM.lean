/-
  catenaryref15: Pick, Trim.
-/
import Derived.Test.YtnmclhgljpcjcaaVerL
import Derived.Test.YtnmclhgljpcjcaaVerF
namespace Go.Proofs.Ytnmclhgljpcjcaa
open Go.RowKit
set_option linter.unusedVariables false

def RpRel (w : World) (l : List Vn) (ver : Int) (iv : Value) (wr : World) : Prop :=
  ∃ (k : Nat), k ≤ l.length ∧ iv = .int .i64 k ∧ (∀ j, j < k → (nthV l j).r ≠ ver) ∧ wr.heap[w.heap.size]? = some (.cells #[.int .u64 0, .int .u64 0, .slice none 0 0] 36 (0, 0)) ∧ Kept NoB w wr
set_option maxRecDepth 100000 in
set_option maxHeartbeats 1000000 in
theorem RPick15 (w : World) (v : Value) (l : List Vn) (ver done : Int) (F : Nat → Prop) (h : VsAt w F v l) (hasc : Asc l) (hF : ∀ k, F k → k < w.heap.size) : Calls Try.prog 34 #[v, .int .u64 ver, .int .u64 done] w fun e w' => ∃ v', e = .returned v' ∧ VnV w' F v' (pickV l ver done) ∧ Kept NoB w w' := by
  obtain ⟨a, c, rfl⟩ := h.form
  have hlm : l.length ≤ 9223372036854775807 := by have := h.len; unfold maxLen at this; omega
  have hk2 := ((Kept.refl NoB w).alloc (.cells #[.int .u64 0, .int .u64 0, .slice none 0 0] 36))
  have h1 := (heap_alloc_new w (.cells #[.int .u64 0, .int .u64 0, .slice none 0 0] 36))
  have HV := Lib.hid h
  have HA := Lib.hid hasc
  have HF := Lib.hid hF
  have H0 : Hid (RpRel w l ver (.int .i64 0) (w.alloc (.cells #[.int .u64 0, .int .u64 0, .slice none 0 0] 36))) := Lib.hid ⟨0, Nat.zero_le _, rfl, fun j h => absurd h (by omega), h1, hk2⟩
  clear h hasc hF h1 hk2
  go_enter Try.func34, Try.ntmps34
  go_wp2
  go_loopw [7] (RpRel w l ver) (fun i _ => l.length - (RowKit.intOf i).toNat)
  case atStart => exact H0.out
  case round =>
    obtain ⟨k, hk, rfl, hno, hr1, hK⟩ := hrel
    have HNO := Lib.hid hno
    have HR1 := Lib.hid hr1
    have HK := Lib.hid hK
    have hk0 : (0 : Int) ≤ (k : Int) := by omega
    obtain ⟨c0, c1, c2⟩ := cells3v hr1
    have z1 := blkV_frozen hr1
    have hvr := HV.out.no hK
    by_cases hlt : k < l.length
    · have hk1 : (k : Int) < (l.length : Int) := by omega
      obtain ⟨b, o, rfl, hFb, hb, u', e0, e1, e2, hd⟩ := hvr.at_ hlt
      obtain ⟨⟨y0, y1, y2⟩, hy⟩ : ∃ y, y = nthV l k := ⟨_, rfl⟩
      rw [← hy] at e0 e1 hd
      simp only at e0 e1 hd
      have HD := Lib.hid hd
      obtain ⟨va, vc, rfl, _⟩ := hd
      have hbw : b < w.heap.size := HF.out b hFb
      have hq1 : ¬ w.heap.size = b := by omega
      have hq2 : ¬ b = w.heap.size := by omega
      have HY := Lib.hid hy
      clear hvr hy hFb hb hno hr1 hK
      by_cases he : y0 = ver
      · have HPK : Hid (pickV l ver done = ⟨y0, y1, y2⟩) := Lib.hid (by rw [pick_hit hlt HNO.out (by rw [← HY.out]; exact he), ← HY.out])
        have heb : (y0 == ver) = true := by simpa using he
        clear he
        go_wp2
        clear c0 c1 c2 z1
        obtain ⟨r0, r1, r2, hO, hK⟩ := fin15v HR1.out (Nat.le_refl _) HK.out (fun k h e => by have := HF.out k h; omega) ⟨y0, y1, y2⟩ _ rfl HD.out
        unfold three15 at r0 r1 r2 hO hK
        simp only [Nat.zero_add] at r0 r1 r2 hO hK
        generalize hW : World.setCell _ _ _ = W3 at r0 r1 r2 hO hK ⊢
        exact bodyPost_ret (v := .agg #[.int .u64 y0, .int .u64 y1, .slice va y2.length vc]) (by simp [results, Try.results34, go_sem, r0, r1, r2]) rfl ⟨_, rfl, HPK.out ▸ hO, hK⟩
      · have heb : (y0 == ver) = false := by simpa using he
        have HE := Lib.hid he
        clear he
        go_wp2
        exact ⟨⟨k + 1, by omega, by go_num, fun j hj => by
          rcases Nat.lt_or_ge j k with h | h
          · exact HNO.out j h
          · obtain rfl : j = k := by omega
            rw [← HY.out]
            exact HE.out, HR1.out, HK.out⟩, by simp [RowKit.intOf]; omega⟩
    · obtain rfl : k = l.length := by omega
      have hP := pick_miss (done := done) hno
      have HCL := Lib.hid (RClean15 wr _ l done F hvr HA.out (fun k h => Nat.lt_of_lt_of_le (HF.out k h) hK.size))
      have hsz : w.heap.size + 1 ≤ wr.heap.size := by have := heap_lt hr1; omega
      obtain ⟨y, hy⟩ : ∃ y, y = cleanV l done := ⟨_, rfl⟩
      rw [← hy] at HCL hP
      clear hno hK hvr hy
      go_wp2_with fail
      refine HCL.out.mono ?_
      rintro e w2 ⟨v2, rfl, hv2, hk2⟩
      obtain ⟨y0, y1, y2⟩ := y
      obtain ⟨u, rfl, hu⟩ := hv2
      simp only at hu
      have HU0 := Lib.hid hu
      obtain ⟨va, vc, rfl, _⟩ := hu
      have hK3 := (Kept.refl NoB w2).alloc (.cells #[.int .u64 y0, .int .u64 y1, .slice va y2.length vc] 36)
      have HU := Lib.hid (HU0.out.kept hK3 (fun _ _ h => h))
      have HK3 := Lib.hid ((HK.out.trans hk2 (fun _ _ h => h)).trans hK3 (fun _ _ h => h))
      have HB3 := Lib.hid (hK3.heap (fun h => h) (hk2.heap (fun h => h) HR1.out))
      have h9 := heap_alloc_new w2 (.cells #[.int .u64 y0, .int .u64 y1, .slice va y2.length vc] 36)
      obtain ⟨d0, d1, d2⟩ := cells3v h9
      have HP := Lib.hid hP
      simp only at HP
      have hs2 := hk2.size
      have hq1 : ¬ w2.heap.size = w.heap.size := by omega
      have hq2 : ¬ w.heap.size = w2.heap.size := by omega
      clear c0 c1 c2 z1 hr1
      obtain ⟨c0, c1, c2⟩ := cells3v HB3.out
      have z := blkV_frozen HB3.out
      clear hk2 h9 hP hK3
      by_cases he : ver < y0
      · have heb : decide (ver < y0) = true := decide_eq_true he
        have HPP : Hid (pickV l ver done = ⟨y0, y1, y2⟩) := Lib.hid (by rw [HP.out, if_pos he])
        clear he
        go_wp2
        clear c0 c1 c2 z d0 d1 d2
        obtain ⟨r0, r1, r2, hO, hK⟩ := fin15v HB3.out (Nat.le_refl _) HK3.out (fun k h e => by have := HF.out k h; omega) ⟨y0, y1, y2⟩ _ rfl HU.out
        unfold three15 at r0 r1 r2 hO hK
        simp only [Nat.zero_add] at r0 r1 r2 hO hK
        generalize hW : World.setCell _ _ _ = W3 at r0 r1 r2 hO hK ⊢
        exact bodyPost_ret (v := .agg #[.int .u64 y0, .int .u64 y1, .slice va y2.length vc]) (by simp [results, Try.results34, go_sem, r0, r1, r2]) rfl ⟨_, rfl, by rw [HPP.out]; exact hO, hK⟩
      · have heb : decide (ver < y0) = false := decide_eq_false he
        have HPP : Hid (pickV l ver done = vn0) := Lib.hid (by rw [HP.out, if_neg he])
        clear he
        go_wp2
        clear c0 c1 c2 z d0 d1 d2
        obtain ⟨r0, r1, r2, hO, hK⟩ := fin15v (F := F) HB3.out (Nat.le_refl _) HK3.out (fun k h e => by have := HF.out k h; omega) vn0 (.slice none 0 0) rfl (BSl.nil _ _)
        unfold three15 vn0 at r0 r1 r2 hO hK
        simp only [Nat.zero_add] at r0 r1 r2 hO hK
        generalize hW : World.setCell _ _ _ = W3 at r0 r1 r2 hO hK ⊢
        exact bodyPost_ret (v := .agg #[.int .u64 0, .int .u64 0, .slice none 0 0]) (by simp [results, Try.results34, go_sem, r0, r1, r2]) rfl ⟨_, rfl, by rw [HPP.out]; exact hO, hK⟩
end Go.Proofs.Ytnmclhgljpcjcaa
