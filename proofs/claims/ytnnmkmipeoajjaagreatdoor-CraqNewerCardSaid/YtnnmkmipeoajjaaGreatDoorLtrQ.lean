/-
  Package update: Made; the chapter's; Same of the chapter's versions.
-/
import Derived.Test.YtnnmkmipeoajjaaGreatDoorUpdC
import Derived.Test.YtnnmkmipeoajjaaGreatDoorVer1
namespace Go.Proofs.YtnnmkmipeoajjaaGreatDoor
open Go.RowKit
set_option linter.unusedVariables false
set_option linter.unusedSimpArgs false

def sameV17 (x y : Vn) : Bool := decide (x.r = y.r) && decide (x.q = y.q) && decide (x.d = y.d)
theorem sameV17_same (x : Vn) : sameV17 x x = true := by unfold sameV17; simp
theorem sameV17_iff (x y : Vn) : sameV17 x y = true ↔ x = y := by
  obtain ⟨x0, x1, x2⟩ := x
  obtain ⟨y0, y1, y2⟩ := y
  unfold sameV17
  simp [and_assoc]
set_option maxRecDepth 100000 in
theorem RSame17 (w : World) (v u : Value) (x y : Vn) (F G : Nat → Prop) (hv : VnV w F v x) (hu : VnV w G u y) : Calls Tryz.prog 35 #[v, u] w fun e w' => e = .returned (.bool (sameV17 x y)) ∧ Kept NoB w w' := by
  obtain ⟨xd, rfl, hb⟩ := hv
  obtain ⟨yd, rfl, hc⟩ := hu
  obtain ⟨x0, x1, x2⟩ := x
  obtain ⟨y0, y1, y2⟩ := y
  simp only at hb hc ⊢
  have HB := Lib.hid hb
  have HC := Lib.hid hc
  obtain ⟨ba, bc, rfl, _⟩ := hb
  obtain ⟨ca, cc, rfl, _⟩ := hc
  have hk := ((Kept.refl NoB w).alloc (.cells #[.int .u64 x0, .int .u64 x1, .slice ba x2.length bc] 78)).alloc (.cells #[.int .u64 y0, .int .u64 y1, .slice ca y2.length cc] 78)
  have HE := Lib.hid (Same_any _ _ x2 y2 F G _ (HB.out.kept hk (fun _ _ h => h)) (HC.out.kept hk (fun _ _ h => h)))
  have HK := Lib.hid hk
  clear hk
  by_cases h0 : x0 = y0
  · by_cases h1 : x1 = y1
    · have e0 : (x0 == y0) = true := by simpa using h0
      have e1 : (x1 == y1) = true := by simpa using h1
      have HR : Hid (sameV17 ⟨x0, x1, x2⟩ ⟨y0, y1, y2⟩ = decide (x2 = y2)) := Lib.hid (by unfold sameV17; simp [h0, h1])
      clear h0 h1
      go_enter Tryz.func35, Tryz.ntmps35
      go_wp2_with fail
      refine HE.out.mono ?_
      rintro e w1 ⟨rfl, hk1⟩
      have HK1 := Lib.hid (HK.out.trans hk1 (fun _ _ h => h)); clear hk1
      go_wp2
      go_ret
      exact ⟨by rw [HR.out]; rfl, HK1.out⟩
    · have e0 : (x0 == y0) = true := by simpa using h0
      have e1 : (x1 == y1) = false := by simpa using h1
      have HR : Hid (sameV17 ⟨x0, x1, x2⟩ ⟨y0, y1, y2⟩ = false) := Lib.hid (by unfold sameV17; simp [h1])
      clear h0 h1
      go_enter Tryz.func35, Tryz.ntmps35
      go_wp2
      go_ret
      exact ⟨by rw [HR.out]; rfl, HK.out⟩
  · have e0 : (x0 == y0) = false := by simpa using h0
    have HR : Hid (sameV17 ⟨x0, x1, x2⟩ ⟨y0, y1, y2⟩ = false) := Lib.hid (by unfold sameV17; simp [h0])
    clear h0
    go_enter Tryz.func35, Tryz.ntmps35
    go_wp2
    go_ret
    exact ⟨by rw [HR.out]; rfl, HK.out⟩
set_option maxRecDepth 100000 in
set_option maxHeartbeats 1000000 in
theorem RMade_eq (w : World) (va : Option Addr) (vc : Nat) (y0 y1 y2 y3 y4 y5 : Int) (y6 : List Int) (ver : Int) : Calls Tryz.prog 92 #[.agg #[.int .u64 y0, .int .i64 y1, .int .u64 y2, .int .i64 y3, .int .u32 y4, .int .u64 y5, .slice va y6.length vc], .int .u64 ver] w fun e w' => e = .returned (.agg #[.int .u64 ver, .int .u64 y0, .slice va y6.length vc]) ∧ Kept NoB w w' := by
  have hr := heap_alloc_new (w.alloc (.cells #[.int .u64 y0, .int .i64 y1, .int .u64 y2, .int .i64 y3, .int .u32 y4, .int .u64 y5, .slice va y6.length vc] 62)) (.cells #[.int .u64 ver, .int .u64 y0, .slice va y6.length vc] 78 (0, 0))
  rw [show (w.alloc (.cells #[.int .u64 y0, .int .i64 y1, .int .u64 y2, .int .i64 y3, .int .u32 y4, .int .u64 y5, .slice va y6.length vc] 62)).heap.size = w.heap.size + 1 by simp] at hr
  have HK := Lib.hid (((Kept.refl NoB w).alloc (.cells #[.int .u64 y0, .int .i64 y1, .int .u64 y2, .int .i64 y3, .int .u32 y4, .int .u64 y5, .slice va y6.length vc] 62)).alloc (.cells #[.int .u64 ver, .int .u64 y0, .slice va y6.length vc] 78 (0, 0)))
  have c0 := (cells7 (blkU_alloc (heap_alloc_new w (.cells #[.int .u64 y0, .int .i64 y1, .int .u64 y2, .int .i64 y3, .int .u32 y4, .int .u64 y5, .slice va y6.length vc] 62)) (.cells #[.int .u64 0, .int .u64 0, .slice none 0 0] 78 (0, 0)))).1
  have c6 := (cells7 (blkU_alloc (heap_alloc_new w (.cells #[.int .u64 y0, .int .i64 y1, .int .u64 y2, .int .i64 y3, .int .u32 y4, .int .u64 y5, .slice va y6.length vc] 62)) (.cells #[.int .u64 0, .int .u64 0, .slice none 0 0] 78 (0, 0)))).2.2.2.2.2.2
  obtain ⟨r0, r1, r2⟩ := cells3v hr
  clear hr
  go_enter Tryz.func92, Tryz.ntmps92
  go_wp2
  exact bodyPost_ret (v := .agg #[.int .u64 ver, .int .u64 y0, .slice va y6.length vc]) (by simp [results, Tryz.results92, go_sem, r0, r1, r2]) rfl ⟨rfl, HK.out⟩
set_option maxRecDepth 100000 in
set_option maxHeartbeats 2000000 in
theorem UMade_any (w : World) (v : Value) (x : Up) (ver : Int) (F : Nat → Prop) (h : UpV w F v x) (hl : x.d.length ≤ 1000000) : Calls Tryz.prog 156 #[v, .int .u64 ver] w fun e w' => ∃ v', e = .returned v' ∧ VnO w' (fun k => w.heap.size ≤ k) v' ⟨ver, x.q, x.d⟩ ∧ Kept NoB w w' := by
  obtain ⟨u, rfl, hd⟩ := h
  have HD := Lib.hid hd
  obtain ⟨va, vc, rfl, _⟩ := hd
  obtain ⟨y0, y1, y2, y3, y4, y5, y6⟩ := x
  simp only at HD hl ⊢
  obtain ⟨W, hW⟩ : ∃ W, W = (w.alloc (.cells #[.int .u64 y0, .int .i64 y1, .int .u64 y2, .int .i64 y3, .int .u32 y4, .int .u64 y5, .slice va y6.length vc] 62)).alloc (.cells #[.int .u64 0, .int .u64 0, .slice none 0 0] 75 (0, 0)) := ⟨_, rfl⟩
  have hk : Kept NoB w W := by rw [hW]; exact ((Kept.refl NoB w).alloc _).alloc _
  have sW : W.heap.size = w.heap.size + 2 := by rw [hW]; simp
  have h1 : W.heap[w.heap.size]? = some (.cells #[.int .u64 y0, .int .i64 y1, .int .u64 y2, .int .i64 y3, .int .u32 y4, .int .u64 y5, .slice va y6.length vc] 62) := by rw [hW]; exact blkU_alloc (heap_alloc_new w _) _
  have h2 : W.heap[w.heap.size + 1]? = some (.cells #[.int .u64 0, .int .u64 0, .slice none 0 0] 75 (0, 0)) := by
    have := heap_alloc_new (w.alloc (.cells #[.int .u64 y0, .int .i64 y1, .int .u64 y2, .int .i64 y3, .int .u32 y4, .int .u64 y5, .slice va y6.length vc] 62)) (.cells #[.int .u64 0, .int .u64 0, .slice none 0 0] 75 (0, 0))
    rw [show (w.alloc (.cells #[.int .u64 y0, .int .i64 y1, .int .u64 y2, .int .i64 y3, .int .u32 y4, .int .u64 y5, .slice va y6.length vc] 62)).heap.size = w.heap.size + 1 by simp] at this
    rw [hW]; exact this
  have HW := Lib.hid hW
  have HK := Lib.hid hk
  have HS := Lib.hid sW
  have HBX := Lib.hid h1
  have HBR := Lib.hid h2
  have HCL := Lib.hid (fun w' (hk' : Kept NoB W w') => Clone_own17 (.slice va y6.length vc) y6 F w' (HD.out.kept (hk.trans hk' (fun _ _ h => h)) (fun _ _ h => h)) hl)
  obtain ⟨c0, c1, c2, c3, c4, c5, c6⟩ := cells7 h1
  obtain ⟨r0, r1, r2⟩ := cells3v h2
  have zf := blkV_frozen h2
  have HNE : Hid (¬ w.heap.size + 1 = w.heap.size) := Lib.hid (by omega)
  clear hW hk sW h1 h2 hl
  go_enter Tryz.func156, Tryz.ntmps156
  go_wp2_with fail
  rw [← HW.out]
  go_region_law ((go_simp; go_at_call 169; refine (HCL.out _ (by first | exact Kept.refl _ _ | exact (Kept.refl NoB W).drew)).mono ?_; rintro e w1 ⟨v', rfl, hv, hk⟩; have hkw : Kept NoB W w1 := (by first | exact hk | exact ((Kept.refl NoB W).drew).trans hk (fun _ _ h => h)); obtain ⟨ca, cc, rfl⟩ := own_form hv.2.1; have HV : Hid (Own w1 (fun k => w.heap.size + 2 ≤ k) (.slice ca y6.length cc) y6) := Lib.hid (hv.mono (fun k _ h => by have := HS.out; have h2 : _ ≤ k := h; (try simp only [World.drew] at h2); omega)); have hx1 := hkw.heap (fun h => h) HBX.out; have hx2 := hkw.heap (fun h => h) HBR.out; clear c0 c1 c2 c3 c4 c5 c6 r0 r1 r2 zf; obtain ⟨c0, c1, c2, c3, c4, c5, c6⟩ := cells7 hx1; obtain ⟨r0, r1, r2⟩ := cells3v hx2; have zf := blkV_frozen hx2; have HX2 := Lib.hid hx2; have HKW := Lib.hid hkw; clear hx1 hx2 hkw hk hv))
  all_goals
    go_wp2
    have hF := three15_at HX2.out (.int .u64 ver) (.int .u64 y0) (.slice ca y6.length cc)
    have hK := (HK.out.trans HKW.out (fun _ _ h => h)).three15 (b := w.heap.size + 1) (.inr (by omega)) 0 (.int .u64 ver) (.int .u64 y0) (.slice ca y6.length cc)
    have hO := HV.out.kept ((Kept.refl (fun k => k = w.heap.size + 1) w1).three15 (b := w.heap.size + 1) (.inl rfl) 0 (.int .u64 ver) (.int .u64 y0) (.slice ca y6.length cc)) (fun k h h' => by omega)
    clear c0 c1 c2 c3 c4 c5 c6 r0 r1 r2 zf
    obtain ⟨r0, r1, r2⟩ := cells3v hF
    clear hF
    unfold three15 at r0 r1 r2 hK hO
    simp only [Nat.zero_add] at r0 r1 r2 hK hO
    generalize hW3 : World.setCell _ _ _ = W3 at r0 r1 r2 hK hO ⊢
    exact bodyPost_ret (v := .agg #[.int .u64 ver, .int .u64 y0, .slice ca y6.length cc]) (by simp [results, Tryz.results156, go_sem, r0, r1, r2]) rfl ⟨_, rfl, ⟨_, rfl, hO.mono (fun k _ h => by omega)⟩, hK⟩
end Go.Proofs.YtnnmkmipeoajjaaGreatDoor
