/-
  Package vers: Pick.
-/
import Derived.Test.YtnmclhgljpcjcaaVerE
namespace Go.Proofs.Ytnmclhgljpcjcaa
open Go.RowKit
set_option linter.unusedVariables false

theorem pick_hit {l : List Vn} {ver done : Int} {k : Nat} (hk : k < l.length) (h : ∀ j, j < k → (nthV l j).r ≠ ver) (he : (nthV l k).r = ver) : pickV l ver done = nthV l k := by
  unfold pickV
  rw [findV_hit hk h he]
  rfl
theorem pick_miss {l : List Vn} {ver done : Int} (h : ∀ j, j < l.length → (nthV l j).r ≠ ver) : pickV l ver done = if ver < (cleanV l done).r then cleanV l done else vn0 := by
  unfold pickV
  rw [findV_none h]
  rfl
def PkRel (W : World) (n : Nat) (l : List Vn) (ver : Int) (iv : Value) (wr : World) : Prop := ∃ k : Nat, k ≤ n ∧ iv = .int .i64 k ∧ (∀ j, j < k → (nthV l j).r ≠ ver) ∧ Kept NoB W wr
set_option maxRecDepth 100000 in
set_option maxHeartbeats 1000000 in
theorem VPick_any (w : World) (x v : Value) (l : List Vn) (ver done : Int) (F : Nat → Prop) (ht : TellsV w x v) (h : VsAt w F v l) (hasc : Asc l) (hl : l.length ≤ 100000) : Calls Try.prog 33 #[x, .int .u64 ver, .int .u64 done] w fun e w' => ∃ v', e = .returned v' ∧ VnO w' (fun k => w.heap.size < k) v' (pickV l ver done) ∧ Kept NoB w w' := by
  obtain ⟨a, c, rfl⟩ := h.form
  have hk0 := (Kept.refl NoB w).alloc (.cells #[.int .u64 0, .int .u64 0, .slice none 0 0] 43)
  have HT0 := Lib.hid (ht _ hk0)
  have HT := Lib.hid (ht.no hk0)
  have HV := Lib.hid (h.no hk0)
  have HK := Lib.hid hk0
  have HB := Lib.hid (heap_alloc_new w (.cells #[.int .u64 0, .int .u64 0, .slice none 0 0] 43))
  have HZ : Hid ((w.alloc (.cells #[.int .u64 0, .int .u64 0, .slice none 0 0] 43)).heap.size = w.heap.size + 1) := Lib.hid (by simp)
  have HA := Lib.hid hasc
  have hll : (l.length : Int) ≤ 100000 := by omega
  clear h ht hk0 hasc
  go_enter Try.func33, Try.ntmps33
  go_wp2_with fail
  refine HT0.out.mono ?_
  rintro e w1 ⟨rfl, hw1⟩
  go_wp2_with fail
  subst hw1
  obtain ⟨W, hW⟩ : ∃ W, W = w.alloc (.cells #[.int .u64 0, .int .u64 0, .slice none 0 0] 43) := ⟨_, rfl⟩
  rw [← hW] at HT HV HK HB HZ ⊢
  clear hW HT0
  go_loopw [13] (PkRel W l.length l ver) (fun i _ => l.length - (RowKit.intOf i).toNat)
  case atStart => exact ⟨0, Nat.zero_le _, rfl, fun j h => absurd h (by omega), Kept.refl _ _⟩
  case round =>
    obtain ⟨k, hk, rfl, hno, hK⟩ := hrel
    have hk00 : (0 : Int) ≤ (k : Int) := by omega
    have HKR := Lib.hid hK
    have HNO := Lib.hid hno
    have hvr := HV.out.no hK
    have hbr := hK.heap (fun h => h) HB.out
    have hsr := hK.size
    have HSR : Hid (w.heap.size + 1 ≤ wr.heap.size) := Lib.hid (by have := HZ.out; omega)
    have HBR := Lib.hid hbr
    by_cases hlt : k < l.length
    · have hk1 : (k : Int) < (l.length : Int) := by omega
      obtain ⟨b, o, rfl, hF, hb, u, e0, e1, e2, hd⟩ := hvr.at_ hlt
      have hdl := (HA.out.at_ hlt).2.2.2.2
      obtain ⟨y, hy⟩ : ∃ y, y = nthV l k := ⟨_, rfl⟩
      rw [← hy] at e0 e1 hd hdl
      have HY := Lib.hid hy
      obtain ⟨y0, y1, y2⟩ := y
      simp only at e0 e1 hd hdl
      have hK2 := (Kept.refl NoB wr).alloc (.cells #[.int .u64 y0, .int .u64 y1, u] 43)
      have HC := Lib.hid (VCopyOf_any (wr.alloc (.cells #[.int .u64 y0, .int .u64 y1, u] 43)) (.agg #[.int .u64 y0, .int .u64 y1, u]) ⟨y0, y1, y2⟩ F ⟨u, rfl, hd.kept hK2 (fun _ _ h => h)⟩ (by show y2.length ≤ 1000000; omega))
      obtain ⟨ua, uc, rfl, _⟩ := hd
      have h8 := heap_alloc_new wr (.cells #[.int .u64 y0, .int .u64 y1, .slice ua y2.length uc] 43)
      obtain ⟨d0, d1, d2⟩ := cells3v h8
      have HK2 := Lib.hid ((HK.out.trans HKR.out (fun _ _ h => h)).trans hK2 (fun _ _ h => h))
      have HKW := Lib.hid (HKR.out.trans hK2 (fun _ _ h => h))
      have HB2 := Lib.hid (hK2.heap (fun h => h) HBR.out)
      have HS2 : Hid (w.heap.size + 1 ≤ (wr.alloc (.cells #[.int .u64 y0, .int .u64 y1, .slice ua y2.length uc] 43)).heap.size) := Lib.hid (by have := hK2.size; have := HSR.out; omega)
      clear hno hK hvr hbr hsr h8 hy hK2 hdl
      by_cases he : y0 = ver
      · have HPK : Hid (pickV l ver done = ⟨y0, y1, y2⟩) := Lib.hid (by rw [pick_hit hlt HNO.out (by rw [← HY.out]; exact he), ← HY.out])
        have heb : (y0 == ver) = true := by simpa using he
        clear he
        go_wp2_with fail
        refine HC.out.mono ?_
        rintro e w3 ⟨v3, rfl, hv3, hk3⟩
        have HK3 := Lib.hid (HK2.out.trans hk3 (fun _ _ h => h))
        have HB3 := Lib.hid (hk3.heap (fun h => h) HB2.out)
        have hv3 := hv3.mono (G := fun k => w.heap.size < k) (fun k _ h => by have := HS2.out; omega)
        obtain ⟨u, rfl, hu⟩ := hv3
        obtain ⟨va, vc, rfl⟩ := own_form hu.2.1
        have HU := Lib.hid hu
        clear d0 d1 d2
        obtain ⟨r0, r1, r2⟩ := cells3v HB3.out
        have z := blkV_frozen HB3.out
        clear hk3 hu
        go_wp2
        clear r0 r1 r2 z
        obtain ⟨r0, r1, r2, hO, hK⟩ := fin15 HB3.out (Nat.le_refl _) HK3.out (fun k h e => by omega) ⟨y0, y1, y2⟩ _ rfl HU.out
        unfold three15 at r0 r1 r2 hK hO
        simp only [Nat.zero_add] at r0 r1 r2 hK hO
        generalize hW : World.setCell _ _ _ = W3 at r0 r1 r2 hK hO ⊢
        exact bodyPost_ret (v := .agg #[.int .u64 y0, .int .u64 y1, .slice va y2.length vc]) (by simp [results, Try.results33, go_sem, r0, r1, r2]) rfl ⟨_, rfl, by rw [HPK.out]; exact hO, hK⟩
      · have heb : (y0 == ver) = false := by simpa using he
        have HE := Lib.hid he
        clear he
        go_wp2
        exact ⟨⟨k + 1, by omega, by go_num, fun j hj => by
          rcases Nat.lt_or_ge j k with h | h
          · exact HNO.out j h
          · obtain rfl : j = k := by omega
            rw [← HY.out]
            exact HE.out, HKW.out⟩, by simp [RowKit.intOf]; omega⟩
    · obtain rfl : k = l.length := by omega
      have hP := pick_miss (done := done) hno
      have HCL := Lib.hid (VClean_any wr x _ l done F (HT.out.no hK) hvr HA.out (by omega))
      obtain ⟨y, hy⟩ : ∃ y, y = cleanV l done := ⟨_, rfl⟩
      rw [← hy] at HCL hP
      clear hno hK hvr hbr hsr hy
      go_wp2_with fail
      refine HCL.out.mono ?_
      rintro e w2 ⟨v2, rfl, hv2, hk2⟩
      obtain ⟨y0, y1, y2⟩ := y
      obtain ⟨u, rfl, hu⟩ := hv2
      obtain ⟨va, vc, rfl⟩ := own_form hu.2.1
      have hK3 := (Kept.refl NoB w2).alloc (.cells #[.int .u64 y0, .int .u64 y1, .slice va y2.length vc] 43)
      have HU := Lib.hid ((hu.mono (G := fun k => w.heap.size < k) (fun k _ h => by have := HSR.out; omega)).kept hK3 (fun _ _ h => h))
      have HK3 := Lib.hid (((HK.out.trans HKR.out (fun _ _ h => h)).trans hk2 (fun _ _ h => h)).trans hK3 (fun _ _ h => h))
      have HB3 := Lib.hid (hK3.heap (fun h => h) (hk2.heap (fun h => h) HBR.out))
      have h9 := heap_alloc_new w2 (.cells #[.int .u64 y0, .int .u64 y1, .slice va y2.length vc] 43)
      obtain ⟨d0, d1, d2⟩ := cells3v h9
      have HP := Lib.hid hP
      simp only at HP
      obtain ⟨r0, r1, r2⟩ := cells3v HB3.out
      have z := blkV_frozen HB3.out
      clear hk2 hu h9 hP hK3
      by_cases he : ver < y0
      · have heb : decide (ver < y0) = true := decide_eq_true he
        have HPP : Hid (pickV l ver done = ⟨y0, y1, y2⟩) := Lib.hid (by rw [HP.out, if_pos he])
        clear he
        go_wp2
        clear r0 r1 r2 z d0 d1 d2
        obtain ⟨r0, r1, r2, hO, hK⟩ := fin15 HB3.out (Nat.le_refl _) HK3.out (fun k h e => by omega) ⟨y0, y1, y2⟩ _ rfl HU.out
        unfold three15 at r0 r1 r2 hK hO
        simp only [Nat.zero_add] at r0 r1 r2 hK hO
        generalize hW : World.setCell _ _ _ = W3 at r0 r1 r2 hK hO ⊢
        exact bodyPost_ret (v := .agg #[.int .u64 y0, .int .u64 y1, .slice va y2.length vc]) (by simp [results, Try.results33, go_sem, r0, r1, r2]) rfl ⟨_, rfl, by rw [HPP.out]; exact hO, hK⟩
      · have heb : decide (ver < y0) = false := decide_eq_false he
        have HPP : Hid (pickV l ver done = vn0) := Lib.hid (by rw [HP.out, if_neg he])
        clear he
        go_wp2
        clear r0 r1 r2 z d0 d1 d2
        obtain ⟨r0, r1, r2, hO, hK⟩ := fin15 HB3.out (Nat.le_refl _) HK3.out (F := fun k => w.heap.size < k) (fun k h e => by omega) vn0 (.slice none 0 0) rfl (Own.nil _ _)
        unfold three15 vn0 at r0 r1 r2 hK hO
        simp only [Nat.zero_add] at r0 r1 r2 hK hO
        generalize hW : World.setCell _ _ _ = W3 at r0 r1 r2 hK hO ⊢
        exact bodyPost_ret (v := .agg #[.int .u64 0, .int .u64 0, .slice none 0 0]) (by simp [results, Try.results33, go_sem, r0, r1, r2]) rfl ⟨_, rfl, by rw [HPP.out]; exact hO, hK⟩
end Go.Proofs.Ytnmclhgljpcjcaa
