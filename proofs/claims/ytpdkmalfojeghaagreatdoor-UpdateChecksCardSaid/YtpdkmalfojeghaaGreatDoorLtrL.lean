/-
  Package update: Request; the chapter's; the walk of UpdateRequests.
-/
import Derived.Test.YtpdkmalfojeghaaGreatDoorLtrJ
import Derived.Test.YtpdkmalfojeghaaGreatDoorLtrK
namespace Go.Proofs.YtpdkmalfojeghaaGreatDoor
open Go.RowKit
set_option linter.unusedVariables false
set_option linter.unusedSimpArgs false

theorem isUp_iff (x : Up) (hn : 0 ≤ x.n) (hr : 0 ≤ x.r) (hk : x.k = 2 ∨ x.k = 3) (hl : ¬ 2048 < x.d.length) : isUp x = true ↔ ¬ (x.c < 1 ∨ 6 < x.c ∨ x.n = 0 ∨ (x.k = 2 ∧ 0 < x.r)) := by
  unfold isUp
  rw [decide_eq_true_eq]
  omega
theorem chk_push (x : Up) (h : FitU x) : chkU areUs x = chkR true x := by
  unfold chkU chkR
  by_cases hk : x.k = 2 ∨ x.k = 3
  rotate_left
  · rw [if_pos hk, if_pos hk]
  have hkk : ¬ ¬ (x.k = 2 ∨ x.k = 3) := fun h => h hk
  rw [if_neg hkk, if_neg hkk]
  by_cases hl : 2048 < x.d.length
  · rw [if_pos hl, if_pos hl]
  rw [if_neg hl, if_neg hl]
  have hi := isUp_iff x h.2.2.1 h.2.2.2.2.2.2.1 hk hl
  have ha : areUs [x] = (!decide (x.q < 1) && isUp x) := by unfold areUs; simp
  have hD : ((decide (0 < x.q) != true) = true) ↔ ¬ 0 < x.q := by simp
  have hE : ((!decide (x.q < 1)) = true) ↔ ¬ x.q < 1 := by simp
  have hiff : areUs [x] = true ↔ ¬ ((decide (0 < x.q) != true) = true ∨ x.c < 1 ∨ 6 < x.c ∨ x.n = 0 ∨ (x.k = 2 ∧ 0 < x.r)) := by
    rw [ha, Bool.and_eq_true, hE, hi, hD]
    omega
  by_cases hP : (decide (0 < x.q) != true) = true ∨ x.c < 1 ∨ 6 < x.c ∨ x.n = 0 ∨ (x.k = 2 ∧ 0 < x.r)
  · rw [if_neg (show ¬ areUs [x] = true from fun h => hiff.1 h hP), if_pos hP]
  · rw [if_pos (show areUs [x] = true from hiff.2 hP), if_neg hP]
theorem chk_ask (x : Up) (h : FitU x) : chkU areReq x = chkR false x := by
  unfold chkU chkR
  by_cases hk : x.k = 2 ∨ x.k = 3
  rotate_left
  · rw [if_pos hk, if_pos hk]
  have hkk : ¬ ¬ (x.k = 2 ∨ x.k = 3) := fun h => h hk
  rw [if_neg hkk, if_neg hkk]
  by_cases hl : 2048 < x.d.length
  · rw [if_pos hl, if_pos hl]
  rw [if_neg hl, if_neg hl]
  have hi := isUp_iff x h.2.2.1 h.2.2.2.2.2.2.1 hk hl
  have ha : areReq [x] = (decide (x.q = 0) && isUp x) := by unfold areReq nthU; simp
  have h0 := h.1
  have hD : ((decide (0 < x.q) != false) = true) ↔ 0 < x.q := by simp
  have hiff : areReq [x] = true ↔ ¬ ((decide (0 < x.q) != false) = true ∨ x.c < 1 ∨ 6 < x.c ∨ x.n = 0 ∨ (x.k = 2 ∧ 0 < x.r)) := by
    rw [ha, Bool.and_eq_true, decide_eq_true_eq, hi, hD]
    omega
  by_cases hP : (decide (0 < x.q) != false) = true ∨ x.c < 1 ∨ 6 < x.c ∨ x.n = 0 ∨ (x.k = 2 ∧ 0 < x.r)
  · rw [if_neg (show ¬ areReq [x] = true from fun h => hiff.1 h hP), if_pos hP]
  · rw [if_pos (show areReq [x] = true from hiff.2 hP), if_neg hP]
/-- What URequest tells. -/
def URequestE (w : World) (F : Nat → Prop) (x : Up) (e : Ending) (w' : World) : Prop :=
  ∃ v', e = .returned (.tuple #[v', .int .i64 (chkU areReq x)]) ∧ UpV w' (fun k => F k ∨ w.heap.size ≤ k) v' (if chkU areReq x = 0 then x else up0) ∧ Kept NoB w w'
set_option maxRecDepth 100000 in
set_option maxHeartbeats 2000000 in
theorem URequest_any (w : World) (va : Option Addr) (vc : Nat) (ok oy or op cl nm : Int) (od : List Int) (F : Nat → Prop) (hd : BSl w F (.slice va od.length vc) od) (hF : ∀ k, F k → k < w.heap.size) (ht : Tab10 w) (hl : od.length ≤ 1000000) : Calls Tryz.prog 38 #[.agg #[.int .i64 ok, .int .u32 oy, .int .u64 or, .slice va od.length vc, .int .i64 op], .int .i64 cl, .int .u64 nm] w (URequestE w F ⟨0, cl, nm, ok, oy, or, od⟩) := by
  obtain ⟨W, hW⟩ : ∃ W, W = ((w.alloc (.cells #[.int .i64 ok, .int .u32 oy, .int .u64 or, .slice va od.length vc, .int .i64 op] 56 (0, 0))).alloc (.cells #[.int .u64 0, .int .i64 0, .int .u64 0, .int .i64 0, .int .u32 0, .int .u64 0, .slice none 0 0] 43 (0, 0))).alloc (.cells #[.int .u64 0, .int .i64 cl, .int .u64 nm, .int .i64 ok, .int .u32 oy, .int .u64 or, .slice va od.length vc] 43 (0, 0)) := ⟨_, rfl⟩
  have hk : Kept NoB w W := by rw [hW]; exact (((Kept.refl NoB w).alloc _).alloc _).alloc _
  have s1 : (w.alloc (.cells #[.int .i64 ok, .int .u32 oy, .int .u64 or, .slice va od.length vc, .int .i64 op] 56 (0, 0))).heap.size = w.heap.size + 1 := by simp
  have s2 : ((w.alloc (.cells #[.int .i64 ok, .int .u32 oy, .int .u64 or, .slice va od.length vc, .int .i64 op] 56 (0, 0))).alloc (.cells #[.int .u64 0, .int .i64 0, .int .u64 0, .int .i64 0, .int .u32 0, .int .u64 0, .slice none 0 0] 43 (0, 0))).heap.size = w.heap.size + 2 := by simp
  have hr1 : W.heap[w.heap.size + 1]? = some (.cells #[.int .u64 0, .int .i64 0, .int .u64 0, .int .i64 0, .int .u32 0, .int .u64 0, .slice none 0 0] 43 (0, 0)) := by
    have := heap_alloc_new (w.alloc (.cells #[.int .i64 ok, .int .u32 oy, .int .u64 or, .slice va od.length vc, .int .i64 op] 56 (0, 0))) (.cells #[.int .u64 0, .int .i64 0, .int .u64 0, .int .i64 0, .int .u32 0, .int .u64 0, .slice none 0 0] 43 (0, 0))
    rw [s1] at this
    rw [hW]; exact blkU_alloc this _
  have hr2 : W.heap[w.heap.size + 2]? = some (.cells #[.int .u64 0, .int .i64 cl, .int .u64 nm, .int .i64 ok, .int .u32 oy, .int .u64 or, .slice va od.length vc] 43 (0, 0)) := by
    have := heap_alloc_new ((w.alloc (.cells #[.int .i64 ok, .int .u32 oy, .int .u64 or, .slice va od.length vc, .int .i64 op] 56 (0, 0))).alloc (.cells #[.int .u64 0, .int .i64 0, .int .u64 0, .int .i64 0, .int .u32 0, .int .u64 0, .slice none 0 0] 43 (0, 0))) (.cells #[.int .u64 0, .int .i64 cl, .int .u64 nm, .int .i64 ok, .int .u32 oy, .int .u64 or, .slice va od.length vc] 43 (0, 0))
    rw [s2] at this
    rw [hW]; exact this
  have HR1 := Lib.hid hr1
  have HR2 := Lib.hid hr2
  have HK := Lib.hid hk
  have hx : UpV W F (.agg #[.int .u64 0, .int .i64 cl, .int .u64 nm, .int .i64 ok, .int .u32 oy, .int .u64 or, .slice va od.length vc]) ⟨0, cl, nm, ok, oy, or, od⟩ := ⟨_, rfl, hd.kept hk (fun _ _ h => h)⟩
  have HX := Lib.hid hx
  have HF := Lib.hid hF
  have HA := Lib.hid (UAsked_any W _ ⟨0, cl, nm, ok, oy, or, od⟩ F hx (fun k h => by have := hF k h; have := hk.size; omega) (ht.kept hk (fun h => h)))
  have HW := Lib.hid hW
  have HL := Lib.hid hl
  have b := heap_alloc_new w (.cells #[.int .i64 ok, .int .u32 oy, .int .u64 or, .slice va od.length vc, .int .i64 op] 56 (0, 0))
  have b' := blkU_alloc b (.cells #[.int .u64 0, .int .i64 0, .int .u64 0, .int .i64 0, .int .u32 0, .int .u64 0, .slice none 0 0] 43 (0, 0))
  have o0 := cell_of_row _ _ 0 _ _ _ b'
  have o1 := cell_of_row _ _ 1 _ _ _ b'
  have o2 := cell_of_row _ _ 2 _ _ _ b'
  have o3 := cell_of_row _ _ 3 _ _ _ b'
  simp only [List.getElem?_toArray, List.getElem?_cons_zero, List.getElem?_cons_succ] at o0 o1 o2 o3
  obtain ⟨z, hz⟩ : ∃ z : Int, z = chkU areReq ⟨0, cl, nm, ok, oy, or, od⟩ := ⟨_, rfl⟩
  have HZ := Lib.hid hz
  rw [← hz] at HA
  clear hr1 hr2 hk s1 s2 hW hd hF hx b b' hz hl ht
  go_enter Tryz.func38, Tryz.ntmps38
  go_wp2_with fail
  rw [← HW.out]
  obtain ⟨c0, c1, c2, c3, c4, c5, c6⟩ := cells7 HR2.out
  go_wp2_with fail
  refine HA.out.mono ?_
  rintro e w1 ⟨rfl, hk1⟩
  have HK1 := Lib.hid hk1
  clear c0 c1 c2 c3 c4 c5 c6 o0 o1 o2 o3 hk1
  have hq1 := HK1.out.heap (fun h => h) HR1.out
  have HQ1 := Lib.hid hq1
  obtain ⟨r0, r1, r2, r3, r4, r5, r6⟩ := cells7 hq1
  have zf := blkU_frozen hq1
  obtain ⟨c0, c1, c2, c3, c4, c5, c6⟩ := cells7 (HK1.out.heap (fun h => h) HR2.out)
  clear hq1
  by_cases hz0 : z = 0
  rotate_left
  · have gz : (z != 0) = true := by simpa using hz0
    have HN := Lib.hid hz0
    clear hz0
    go_wp2
    have hF := seven17_at HQ1.out (.int .u64 0) (.int .i64 0) (.int .u64 0) (.int .i64 0) (.int .u32 0) (.int .u64 0) (.slice none 0 0)
    have hK := (HK.out.trans HK1.out (fun _ _ h => h)).seven17 (b := w.heap.size + 1) (.inr (by omega)) 0 (.int .u64 0) (.int .i64 0) (.int .u64 0) (.int .i64 0) (.int .u32 0) (.int .u64 0) (.slice none 0 0)
    clear c0 c1 c2 c3 c4 c5 c6 r0 r1 r2 r3 r4 r5 r6 zf
    obtain ⟨r0, r1, r2, r3, r4, r5, r6⟩ := cells7 hF
    clear hF
    unfold seven17 at r0 r1 r2 r3 r4 r5 r6 hK
    simp only [Nat.zero_add] at r0 r1 r2 r3 r4 r5 r6 hK
    generalize hW3 : World.setCell _ _ _ = W3 at r0 r1 r2 r3 r4 r5 r6 hK ⊢
    refine bodyPost_ret (v := .tuple #[.agg #[.int .u64 0, .int .i64 0, .int .u64 0, .int .i64 0, .int .u32 0, .int .u64 0, .slice none 0 0], .int .i64 z]) (by simp [results, Tryz.results38, go_sem, r0, r1, r2, r3, r4, r5, r6]) rfl ⟨_, by rw [← HZ.out], ?_, hK⟩
    rw [← HZ.out, if_neg HN.out]
    exact ⟨_, rfl, BSl.nil _ _⟩
  · have gz : (z != 0) = false := by simp [hz0]
    subst hz0
    go_wp2_with fail
    refine (UCopyOf_any w1 _ ⟨0, cl, nm, ok, oy, or, od⟩ F (HX.out.no HK1.out) HL.out).mono ?_
    rintro e w2 ⟨v2, rfl, hv2, hk2⟩
    obtain ⟨u2, rfl, hu2⟩ := hv2
    obtain ⟨ua2, uc2, rfl⟩ := own_form hu2.2.1
    have HU2 := Lib.hid hu2.bsl
    have HK2 := Lib.hid ((HK.out.trans HK1.out (fun _ _ h => h)).trans hk2 (fun _ _ h => h))
    have hq2 := hk2.heap (fun h => h) HQ1.out
    have HQ2 := Lib.hid hq2
    have HS1 := Lib.hid (show w.heap.size + 2 < w1.heap.size from heap_lt (HK1.out.heap (fun h => h) HR2.out))
    clear c0 c1 c2 c3 c4 c5 c6 r0 r1 r2 r3 r4 r5 r6 zf hu2 hk2
    obtain ⟨r0, r1, r2, r3, r4, r5, r6⟩ := cells7 hq2
    have zf := blkU_frozen hq2
    clear hq2
    go_wp2
    have hF := seven17_at HQ2.out (.int .u64 0) (.int .i64 cl) (.int .u64 nm) (.int .i64 ok) (.int .u32 oy) (.int .u64 or) (.slice ua2 od.length uc2)
    have hK := HK2.out.seven17 (b := w.heap.size + 1) (.inr (by omega)) 0 (.int .u64 0) (.int .i64 cl) (.int .u64 nm) (.int .i64 ok) (.int .u32 oy) (.int .u64 or) (.slice ua2 od.length uc2)
    have hB := HU2.out.kept ((Kept.refl (fun k => k = w.heap.size + 1) w2).seven17 (b := w.heap.size + 1) (.inl rfl) 0 (.int .u64 0) (.int .i64 cl) (.int .u64 nm) (.int .i64 ok) (.int .u32 oy) (.int .u64 or) (.slice ua2 od.length uc2)) (fun k h h' => by have := HS1.out; have h2 : w1.heap.size ≤ k := h; omega)
    clear r0 r1 r2 r3 r4 r5 r6 zf
    obtain ⟨r0, r1, r2, r3, r4, r5, r6⟩ := cells7 hF
    clear hF
    unfold seven17 at r0 r1 r2 r3 r4 r5 r6 hK hB
    simp only [Nat.zero_add] at r0 r1 r2 r3 r4 r5 r6 hK hB
    generalize hW3 : World.setCell _ _ _ = W3 at r0 r1 r2 r3 r4 r5 r6 hK hB ⊢
    refine bodyPost_ret (v := .tuple #[.agg #[.int .u64 0, .int .i64 cl, .int .u64 nm, .int .i64 ok, .int .u32 oy, .int .u64 or, .slice ua2 od.length uc2], .int .i64 0]) (by simp [results, Tryz.results38, go_sem, r0, r1, r2, r3, r4, r5, r6]) rfl ⟨_, by rw [← HZ.out], ?_, hK⟩
    rw [← HZ.out, if_pos rfl]
    exact ⟨_, rfl, hB.mono (fun k _ h => .inr (by have := HS1.out; have h2 : w1.heap.size ≤ k := h; omega))⟩
/-- What RRequest tells. -/
def RRequestE (w : World) (F : Nat → Prop) (x : Up) (e : Ending) (w' : World) : Prop :=
  ∃ v', e = .returned (.tuple #[v', .int .i64 (chkR false x)]) ∧ UpV w' (fun k => F k ∨ w.heap.size ≤ k) v' (if chkR false x = 0 then x else up0) ∧ Kept NoB w w'
set_option maxRecDepth 100000 in
set_option maxHeartbeats 2000000 in
theorem RRequest_any (w : World) (va : Option Addr) (vc : Nat) (ok oy or op cl nm : Int) (od : List Int) (F : Nat → Prop) (hd : BSl w F (.slice va od.length vc) od) (hF : ∀ k, F k → k < w.heap.size) (hl : od.length ≤ 1000000) : Calls Tryz.prog 39 #[.agg #[.int .i64 ok, .int .u32 oy, .int .u64 or, .slice va od.length vc, .int .i64 op], .int .i64 cl, .int .u64 nm] w (RRequestE w F ⟨0, cl, nm, ok, oy, or, od⟩) := by
  obtain ⟨W, hW⟩ : ∃ W, W = ((w.alloc (.cells #[.int .i64 ok, .int .u32 oy, .int .u64 or, .slice va od.length vc, .int .i64 op] 56 (0, 0))).alloc (.cells #[.int .u64 0, .int .i64 0, .int .u64 0, .int .i64 0, .int .u32 0, .int .u64 0, .slice none 0 0] 43 (0, 0))).alloc (.cells #[.int .u64 0, .int .i64 cl, .int .u64 nm, .int .i64 ok, .int .u32 oy, .int .u64 or, .slice va od.length vc] 43 (0, 0)) := ⟨_, rfl⟩
  have hk : Kept NoB w W := by rw [hW]; exact (((Kept.refl NoB w).alloc _).alloc _).alloc _
  have s1 : (w.alloc (.cells #[.int .i64 ok, .int .u32 oy, .int .u64 or, .slice va od.length vc, .int .i64 op] 56 (0, 0))).heap.size = w.heap.size + 1 := by simp
  have s2 : ((w.alloc (.cells #[.int .i64 ok, .int .u32 oy, .int .u64 or, .slice va od.length vc, .int .i64 op] 56 (0, 0))).alloc (.cells #[.int .u64 0, .int .i64 0, .int .u64 0, .int .i64 0, .int .u32 0, .int .u64 0, .slice none 0 0] 43 (0, 0))).heap.size = w.heap.size + 2 := by simp
  have hr1 : W.heap[w.heap.size + 1]? = some (.cells #[.int .u64 0, .int .i64 0, .int .u64 0, .int .i64 0, .int .u32 0, .int .u64 0, .slice none 0 0] 43 (0, 0)) := by
    have := heap_alloc_new (w.alloc (.cells #[.int .i64 ok, .int .u32 oy, .int .u64 or, .slice va od.length vc, .int .i64 op] 56 (0, 0))) (.cells #[.int .u64 0, .int .i64 0, .int .u64 0, .int .i64 0, .int .u32 0, .int .u64 0, .slice none 0 0] 43 (0, 0))
    rw [s1] at this
    rw [hW]; exact blkU_alloc this _
  have hr2 : W.heap[w.heap.size + 2]? = some (.cells #[.int .u64 0, .int .i64 cl, .int .u64 nm, .int .i64 ok, .int .u32 oy, .int .u64 or, .slice va od.length vc] 43 (0, 0)) := by
    have := heap_alloc_new ((w.alloc (.cells #[.int .i64 ok, .int .u32 oy, .int .u64 or, .slice va od.length vc, .int .i64 op] 56 (0, 0))).alloc (.cells #[.int .u64 0, .int .i64 0, .int .u64 0, .int .i64 0, .int .u32 0, .int .u64 0, .slice none 0 0] 43 (0, 0))) (.cells #[.int .u64 0, .int .i64 cl, .int .u64 nm, .int .i64 ok, .int .u32 oy, .int .u64 or, .slice va od.length vc] 43 (0, 0))
    rw [s2] at this
    rw [hW]; exact this
  have HR1 := Lib.hid hr1
  have HR2 := Lib.hid hr2
  have HK := Lib.hid hk
  have hx : UpV W F (.agg #[.int .u64 0, .int .i64 cl, .int .u64 nm, .int .i64 ok, .int .u32 oy, .int .u64 or, .slice va od.length vc]) ⟨0, cl, nm, ok, oy, or, od⟩ := ⟨_, rfl, hd.kept hk (fun _ _ h => h)⟩
  have HX := Lib.hid hx
  have HF := Lib.hid hF
  have HA := Lib.hid (RAsked17_any W _ ⟨0, cl, nm, ok, oy, or, od⟩ F hx)
  have HW := Lib.hid hW
  have HL := Lib.hid hl
  have b := heap_alloc_new w (.cells #[.int .i64 ok, .int .u32 oy, .int .u64 or, .slice va od.length vc, .int .i64 op] 56 (0, 0))
  have b' := blkU_alloc b (.cells #[.int .u64 0, .int .i64 0, .int .u64 0, .int .i64 0, .int .u32 0, .int .u64 0, .slice none 0 0] 43 (0, 0))
  have o0 := cell_of_row _ _ 0 _ _ _ b'
  have o1 := cell_of_row _ _ 1 _ _ _ b'
  have o2 := cell_of_row _ _ 2 _ _ _ b'
  have o3 := cell_of_row _ _ 3 _ _ _ b'
  simp only [List.getElem?_toArray, List.getElem?_cons_zero, List.getElem?_cons_succ] at o0 o1 o2 o3
  obtain ⟨z, hz⟩ : ∃ z : Int, z = chkR false ⟨0, cl, nm, ok, oy, or, od⟩ := ⟨_, rfl⟩
  have HZ := Lib.hid hz
  rw [← hz] at HA
  clear hr1 hr2 hk s1 s2 hW hd hF hx b b' hz hl
  go_enter Tryz.func39, Tryz.ntmps39
  go_wp2_with fail
  rw [← HW.out]
  obtain ⟨c0, c1, c2, c3, c4, c5, c6⟩ := cells7 HR2.out
  go_wp2_with fail
  refine HA.out.mono ?_
  rintro e w1 ⟨rfl, hk1⟩
  have HK1 := Lib.hid hk1
  clear c0 c1 c2 c3 c4 c5 c6 o0 o1 o2 o3 hk1
  have hq1 := HK1.out.heap (fun h => h) HR1.out
  have HQ1 := Lib.hid hq1
  obtain ⟨r0, r1, r2, r3, r4, r5, r6⟩ := cells7 hq1
  have zf := blkU_frozen hq1
  obtain ⟨c0, c1, c2, c3, c4, c5, c6⟩ := cells7 (HK1.out.heap (fun h => h) HR2.out)
  clear hq1
  by_cases hz0 : z = 0
  rotate_left
  · have gz : (z != 0) = true := by simpa using hz0
    have HN := Lib.hid hz0
    clear hz0
    go_wp2
    have hF := seven17_at HQ1.out (.int .u64 0) (.int .i64 0) (.int .u64 0) (.int .i64 0) (.int .u32 0) (.int .u64 0) (.slice none 0 0)
    have hK := (HK.out.trans HK1.out (fun _ _ h => h)).seven17 (b := w.heap.size + 1) (.inr (by omega)) 0 (.int .u64 0) (.int .i64 0) (.int .u64 0) (.int .i64 0) (.int .u32 0) (.int .u64 0) (.slice none 0 0)
    clear c0 c1 c2 c3 c4 c5 c6 r0 r1 r2 r3 r4 r5 r6 zf
    obtain ⟨r0, r1, r2, r3, r4, r5, r6⟩ := cells7 hF
    clear hF
    unfold seven17 at r0 r1 r2 r3 r4 r5 r6 hK
    simp only [Nat.zero_add] at r0 r1 r2 r3 r4 r5 r6 hK
    generalize hW3 : World.setCell _ _ _ = W3 at r0 r1 r2 r3 r4 r5 r6 hK ⊢
    refine bodyPost_ret (v := .tuple #[.agg #[.int .u64 0, .int .i64 0, .int .u64 0, .int .i64 0, .int .u32 0, .int .u64 0, .slice none 0 0], .int .i64 z]) (by simp [results, Tryz.results39, go_sem, r0, r1, r2, r3, r4, r5, r6]) rfl ⟨_, by rw [← HZ.out], ?_, hK⟩
    rw [← HZ.out, if_neg HN.out]
    exact ⟨_, rfl, BSl.nil _ _⟩
  · have gz : (z != 0) = false := by simp [hz0]
    subst hz0
    go_wp2
    have hF := seven17_at HQ1.out (.int .u64 0) (.int .i64 cl) (.int .u64 nm) (.int .i64 ok) (.int .u32 oy) (.int .u64 or) (.slice va od.length vc)
    have hK := (HK.out.trans HK1.out (fun _ _ h => h)).seven17 (b := w.heap.size + 1) (.inr (by omega)) 0 (.int .u64 0) (.int .i64 cl) (.int .u64 nm) (.int .i64 ok) (.int .u32 oy) (.int .u64 or) (.slice va od.length vc)
    have hB := (HX.out.no HK1.out).kept ((Kept.refl (fun k => k = w.heap.size + 1) w1).seven17 (b := w.heap.size + 1) (.inl rfl) 0 (.int .u64 0) (.int .i64 cl) (.int .u64 nm) (.int .i64 ok) (.int .u32 oy) (.int .u64 or) (.slice va od.length vc)) (fun k h h' => by have := HF.out k h; omega)
    clear c0 c1 c2 c3 c4 c5 c6 r0 r1 r2 r3 r4 r5 r6 zf
    obtain ⟨r0, r1, r2, r3, r4, r5, r6⟩ := cells7 hF
    clear hF
    unfold seven17 at r0 r1 r2 r3 r4 r5 r6 hK hB
    simp only [Nat.zero_add] at r0 r1 r2 r3 r4 r5 r6 hK hB
    generalize hW3 : World.setCell _ _ _ = W3 at r0 r1 r2 r3 r4 r5 r6 hK hB ⊢
    refine bodyPost_ret (v := .tuple #[.agg #[.int .u64 0, .int .i64 cl, .int .u64 nm, .int .i64 ok, .int .u32 oy, .int .u64 or, .slice va od.length vc], .int .i64 0]) (by simp [results, Tryz.results39, go_sem, r0, r1, r2, r3, r4, r5, r6]) rfl ⟨_, by rw [← HZ.out], ?_, hK⟩
    rw [← HZ.out, if_pos rfl]
    exact hB.mono (fun k _ h => .inl h)
end Go.Proofs.YtpdkmalfojeghaaGreatDoor
