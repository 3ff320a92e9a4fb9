/-
  Package update: Check and Asked; the chapter's.
-/
import Derived.Test.YtnnmkmipeoajjaaGreatDoorLtrI
import Derived.Test.YtnnmkmipeoajjaaGreatDoorUpdH
namespace Go.Proofs.YtnnmkmipeoajjaaGreatDoor
open Go.RowKit
set_option linter.unusedVariables false
set_option linter.unusedSimpArgs false

/-- What Check and Asked tell, by what the letter says. -/
def chkU (fine : List Up → Bool) (x : Up) : Int := if ¬ (x.k = 2 ∨ x.k = 3) then 1 else if 2048 < x.d.length then 6 else if fine [x] then 0 else 4
/-- A slice of one update in a block of its own. -/
theorem UsAt.one {w : World} {F : Nat → Prop} {b : Nat} {x : Up} {u : Value} {t : TypeId} (h : w.heap[b]? = some (.cells #[.int .u64 x.q, .int .i64 x.c, .int .u64 x.n, .int .i64 x.k, .int .u32 x.key, .int .u64 x.r, u] t (0, 0))) (hb : F b) (hd : BSl w F u x.d) : UsAt w F (.slice (some ⟨b, 0, none⟩) 1 1) [x] := by
  obtain ⟨c0, c1, c2, c3, c4, c5, c6⟩ := cells7 h
  refine ⟨_, 1, rfl, Nat.le_refl _, by decide, (fun h => by cases h), fun _ => ⟨b, 0, rfl, hb, heap_lt h, fun j hj => ?_⟩⟩
  obtain rfl : j = 0 := by simp only [List.length_cons, List.length_nil] at hj; omega
  exact ⟨u, c0, c1, c2, c3, c4, c5, c6, hd⟩
set_option maxRecDepth 100000 in
set_option maxHeartbeats 4000000 in
theorem checkIn_12 (w : World) (v : Value) (x : Up) (F : Nat → Prop) (h : UpV w F v x) (hF : ∀ k, F k → k < w.heap.size) (ht : Tab10 w) : Calls Tryz.prog 153 #[.int .i64 12, v] w fun e w' => e = .returned (.int .i64 (chkU areUs x)) ∧ Kept NoB w w' := by
  obtain ⟨u, rfl, hd⟩ := h
  have HD := Lib.hid hd
  obtain ⟨va, vc, rfl, _⟩ := hd
  obtain ⟨y0, y1, y2, y3, y4, y5, y6⟩ := x
  simp only at HD ⊢
  have hka := (Kept.refl NoB w).alloc (.cells #[.int .u64 y0, .int .i64 y1, .int .u64 y2, .int .i64 y3, .int .u32 y4, .int .u64 y5, .slice va y6.length vc] 62)
  have HKA := Lib.hid hka
  have hb := heap_alloc_new w (.cells #[.int .u64 y0, .int .i64 y1, .int .u64 y2, .int .i64 y3, .int .u32 y4, .int .u64 y5, .slice va y6.length vc] 62)
  have HB := Lib.hid hb
  obtain ⟨c0, c1, c2, c3, c4, c5, c6⟩ := cells7 hb
  have HIK := Lib.hid (fun w => UisKind_any w y3)
  obtain ⟨cx, hcx⟩ : ∃ z, z = chkU areUs ⟨y0, y1, y2, y3, y4, y5, y6⟩ := ⟨_, rfl⟩
  rw [← hcx]
  have HCX := Lib.hid hcx
  by_cases hk : y3 = 2 ∨ y3 = 3
  rotate_left
  · have HX : Hid (cx = 1) := Lib.hid (by rw [hcx]; unfold chkU; rw [if_pos (by exact hk)])
    have hkb : decide (y3 = 2 ∨ y3 = 3) = false := decide_eq_false hk
    rw [hkb] at HIK
    clear hka hb hcx hk ht hF hkb c0 c1 c2 c4 c5 c6
    go_enter Tryz.func153, Tryz.ntmps153
    go_wp2_with fail
    refine (HIK.out _).mono ?_
    rintro e w1 ⟨rfl, rfl⟩
    go_wp2
    go_ret
    exact ⟨by rw [HX.out]; rfl, HKA.out⟩
  have hkb : decide (y3 = 2 ∨ y3 = 3) = true := decide_eq_true hk
  rw [hkb] at HIK
  by_cases hl : 2048 < y6.length
  · have HX : Hid (cx = 6) := Lib.hid (by rw [hcx]; unfold chkU; rw [if_neg (by exact fun h => h hk), if_pos (by exact hl)])
    have g1 : decide ((2048 : Int) < (y6.length : Int)) = true := decide_eq_true (by omega)
    clear hka hb hcx hk ht hF hkb hl c0 c1 c2 c4 c5
    go_enter Tryz.func153, Tryz.ntmps153
    go_wp2_with fail
    refine (HIK.out _).mono ?_
    rintro e w1 ⟨rfl, rfl⟩
    go_wp2
    go_ret
    exact ⟨by rw [HX.out]; rfl, HKA.out⟩
  have HX : Hid (cx = if areUs [⟨y0, y1, y2, y3, y4, y5, y6⟩] then 0 else 4) := Lib.hid (by rw [hcx]; unfold chkU; rw [if_neg (by exact fun h => h hk), if_neg (by exact hl)])
  have g1 : decide ((2048 : Int) < (y6.length : Int)) = false := decide_eq_false (by omega)
  -- the slice of one, and the letter
  obtain ⟨W1, hW1⟩ : ∃ W1, W1 = (w.alloc (.cells #[.int .u64 y0, .int .i64 y1, .int .u64 y2, .int .i64 y3, .int .u32 y4, .int .u64 y5, .slice va y6.length vc] 62)).alloc (.cells #[.int .u64 y0, .int .i64 y1, .int .u64 y2, .int .i64 y3, .int .u32 y4, .int .u64 y5, .slice va y6.length vc] 62) := ⟨_, rfl⟩
  have sw : (w.alloc (.cells #[.int .u64 y0, .int .i64 y1, .int .u64 y2, .int .i64 y3, .int .u32 y4, .int .u64 y5, .slice va y6.length vc] 62)).heap.size = w.heap.size + 1 := by simp
  have sW1 : W1.heap.size = w.heap.size + 2 := by rw [hW1]; simp
  have hk1 : Kept NoB w W1 := by rw [hW1]; exact hka.alloc _
  have hr1 : W1.heap[w.heap.size + 1]? = some (.cells #[.int .u64 y0, .int .i64 y1, .int .u64 y2, .int .i64 y3, .int .u32 y4, .int .u64 y5, .slice va y6.length vc] 62) := by
    have := heap_alloc_new (w.alloc (.cells #[.int .u64 y0, .int .i64 y1, .int .u64 y2, .int .i64 y3, .int .u32 y4, .int .u64 y5, .slice va y6.length vc] 62)) (.cells #[.int .u64 y0, .int .i64 y1, .int .u64 y2, .int .i64 y3, .int .u32 y4, .int .u64 y5, .slice va y6.length vc] 62)
    rw [sw] at this
    rw [hW1]; exact this
  obtain ⟨W2, hW2⟩ : ∃ W2, W2 = W1.alloc (.cells #[.int .i64 12, .int .i64 201, .int .i64 1, .int .i64 0, .int .u64 1, .int .u64 0, .int .u64 0, .int .u64 0, .int .u64 0, .int .u64 0, .int .i64 0, .int .u32 0, .int .i64 0, .int .i64 0, .int .i64 0, .int .u64 0, .int .i64 0, .int .i64 0, .int .u64 0, .slice none 0 0, .bool false, .int .i64 0, .slice none 0 0, .slice (some ⟨w.heap.size + 1, 0, none⟩) 1 1, .slice none 0 0] 122 (0, 0)) := ⟨_, rfl⟩
  have hk2 : Kept NoB w W2 := by rw [hW2]; exact hk1.alloc _
  have hk12 : Kept NoB W1 W2 := by rw [hW2]; exact (Kept.refl NoB W1).alloc _
  have hr2 : W2.heap[w.heap.size + 2]? = some (.cells #[.int .i64 12, .int .i64 201, .int .i64 1, .int .i64 0, .int .u64 1, .int .u64 0, .int .u64 0, .int .u64 0, .int .u64 0, .int .u64 0, .int .i64 0, .int .u32 0, .int .i64 0, .int .i64 0, .int .i64 0, .int .u64 0, .int .i64 0, .int .i64 0, .int .u64 0, .slice none 0 0, .bool false, .int .i64 0, .slice none 0 0, .slice (some ⟨w.heap.size + 1, 0, none⟩) 1 1, .slice none 0 0] 122 (0, 0)) := by
    have := heap_alloc_new W1 (.cells #[.int .i64 12, .int .i64 201, .int .i64 1, .int .i64 0, .int .u64 1, .int .u64 0, .int .u64 0, .int .u64 0, .int .u64 0, .int .u64 0, .int .i64 0, .int .u32 0, .int .i64 0, .int .i64 0, .int .i64 0, .int .u64 0, .int .i64 0, .int .i64 0, .int .u64 0, .slice none 0 0, .bool false, .int .i64 0, .slice none 0 0, .slice (some ⟨w.heap.size + 1, 0, none⟩) 1 1, .slice none 0 0] 122 (0, 0))
    rw [sW1] at this
    rw [hW2]; exact this
  have HSR : Hid ((W1.alloc (.cells #[.int .i64 0, .int .i64 0, .int .i64 0, .int .i64 0, .int .u64 0, .int .u64 0, .int .u64 0, .int .u64 0, .int .u64 0, .int .u64 0, .int .i64 0, .int .u32 0, .int .i64 0, .int .i64 0, .int .i64 0, .int .u64 0, .int .i64 0, .int .i64 0, .int .u64 0, .slice none 0 0, .bool false, .int .i64 0, .slice none 0 0, .slice none 0 0, .slice none 0 0] 122 (0, 0))).setRow (w.heap.size + 2) #[.int .i64 12, .int .i64 201, .int .i64 1, .int .i64 0, .int .u64 1, .int .u64 0, .int .u64 0, .int .u64 0, .int .u64 0, .int .u64 0, .int .i64 0, .int .u32 0, .int .i64 0, .int .i64 0, .int .i64 0, .int .u64 0, .int .i64 0, .int .i64 0, .int .u64 0, .slice none 0 0, .bool false, .int .i64 0, .slice none 0 0, .slice (some ⟨w.heap.size + 1, 0, none⟩) 1 1, .slice none 0 0] = W2) := Lib.hid (by
    have := World.setRow_alloc_new W1 #[.int .i64 0, .int .i64 0, .int .i64 0, .int .i64 0, .int .u64 0, .int .u64 0, .int .u64 0, .int .u64 0, .int .u64 0, .int .u64 0, .int .i64 0, .int .u32 0, .int .i64 0, .int .i64 0, .int .i64 0, .int .u64 0, .int .i64 0, .int .i64 0, .int .u64 0, .slice none 0 0, .bool false, .int .i64 0, .slice none 0 0, .slice none 0 0, .slice none 0 0] #[.int .i64 12, .int .i64 201, .int .i64 1, .int .i64 0, .int .u64 1, .int .u64 0, .int .u64 0, .int .u64 0, .int .u64 0, .int .u64 0, .int .i64 0, .int .u32 0, .int .i64 0, .int .i64 0, .int .i64 0, .int .u64 0, .int .i64 0, .int .i64 0, .int .u64 0, .slice none 0 0, .bool false, .int .i64 0, .slice none 0 0, .slice (some ⟨w.heap.size + 1, 0, none⟩) 1 1, .slice none 0 0] 122
    rw [sW1] at this
    rw [hW2]; exact this)
  have HGZ : Hid ((W1.alloc (.cells #[.int .i64 0, .int .i64 0, .int .i64 0, .int .i64 0, .int .u64 0, .int .u64 0, .int .u64 0, .int .u64 0, .int .u64 0, .int .u64 0, .int .i64 0, .int .u32 0, .int .i64 0, .int .i64 0, .int .i64 0, .int .u64 0, .int .i64 0, .int .i64 0, .int .u64 0, .slice none 0 0, .bool false, .int .i64 0, .slice none 0 0, .slice none 0 0, .slice none 0 0] 122 (0, 0))).heap[w.heap.size + 2]? = some (.cells #[.int .i64 0, .int .i64 0, .int .i64 0, .int .i64 0, .int .u64 0, .int .u64 0, .int .u64 0, .int .u64 0, .int .u64 0, .int .u64 0, .int .i64 0, .int .u32 0, .int .i64 0, .int .i64 0, .int .i64 0, .int .u64 0, .int .i64 0, .int .i64 0, .int .u64 0, .slice none 0 0, .bool false, .int .i64 0, .slice none 0 0, .slice none 0 0, .slice none 0 0] 122 (0, 0))) := Lib.hid (by
    have := heap_alloc_new W1 (.cells #[.int .i64 0, .int .i64 0, .int .i64 0, .int .i64 0, .int .u64 0, .int .u64 0, .int .u64 0, .int .u64 0, .int .u64 0, .int .u64 0, .int .i64 0, .int .u32 0, .int .i64 0, .int .i64 0, .int .i64 0, .int .u64 0, .int .i64 0, .int .i64 0, .int .u64 0, .slice none 0 0, .bool false, .int .i64 0, .slice none 0 0, .slice none 0 0, .slice none 0 0] 122 (0, 0))
    rw [sW1] at this
    exact this)
  have hone : (#[.int .i64 12, .int .i64 201, .int .i64 1, .int .i64 0, .int .u64 1, .int .u64 0, .int .u64 0, .int .u64 0, .int .u64 0, .int .u64 0, .int .i64 0, .int .u32 0, .int .i64 0, .int .i64 0, .int .i64 0, .int .u64 0, .int .i64 0, .int .i64 0, .int .u64 0, .slice none 0 0, .bool false, .int .i64 0, .slice none 0 0, .slice (some ⟨w.heap.size + 1, 0, none⟩) 1 1, .slice none 0 0] : Array Value).all (·.oneCell') = true := by rw [← Array.all_toList]; rfl
  have HONE := Lib.hid hone
  have HR2 := Lib.hid hr2
  have HW1 := Lib.hid hW1
  have HS1 := Lib.hid sW1
  have hus := UsAt.one (F := fun k => F k ∨ k = w.heap.size + 1) (x := ⟨y0, y1, y2, y3, y4, y5, y6⟩) (hk12.heap (fun h => h) hr1) (.inr rfl) ((HD.out.kept hk2 (fun _ _ h => h)).mono (fun k _ h => .inl h))
  have HLC := Lib.hid (LCheck_12 W2 (some ⟨w.heap.size + 1, 0, none⟩) 1 [⟨y0, y1, y2, y3, y4, y5, y6⟩] (fun k => F k ∨ k = w.heap.size + 1) hus (fun k h => h.elim (fun h => by have := hF k h; have := hk2.size; omega) (fun h => by have := hk12.size; omega)) (ht.kept hk2 (fun h => h)))
  have HK2 := Lib.hid hk2
  obtain ⟨z, hz⟩ : ∃ z : Int, z = if areUs [⟨y0, y1, y2, y3, y4, y5, y6⟩] then 0 else 4 := ⟨_, rfl⟩
  have hX := HX.out
  rw [← hz] at HLC hX
  have hzc : z = 0 ∨ z = 4 := by
    rw [hz]
    cases areUs [⟨y0, y1, y2, y3, y4, y5, y6⟩]
    · exact .inr rfl
    · exact .inl rfl
  subst hX
  have HZC := Lib.hid hzc
  clear hz HX HCX hzc
  clear hka hb hcx hk ht hF hkb hl hW1 sw sW1 hk1 hr1 hW2 hk2 hk12 hr2 hone hus c0 c1 c2 c4 c5
  obtain ⟨c0, c1, c2, c3', c4, c5, c6'⟩ := cells7 HB.out
  go_enter Tryz.func153, Tryz.ntmps153
  go_wp2_with fail
  refine (HIK.out _).mono ?_
  rintro e w1 ⟨rfl, rfl⟩
  go_upto_region 6 with (first
    | (refine wpList_store_row rfl 122 _ _ rfl (w.heap.size + 2) #[.int .i64 12, .int .i64 201, .int .i64 1, .int .i64 0, .int .u64 1, .int .u64 0, .int .u64 0, .int .u64 0, .int .u64 0, .int .u64 0, .int .i64 0, .int .u32 0, .int .i64 0, .int .i64 0, .int .i64 0, .int .u64 0, .int .i64 0, .int .i64 0, .int .u64 0, .slice none 0 0, .bool false, .int .i64 0, .slice none 0 0, .slice (some ⟨w.heap.size + 1, 0, none⟩) 1 1, .slice none 0 0] rfl rfl 122 #[.int .i64 0, .int .i64 0, .int .i64 0, .int .i64 0, .int .u64 0, .int .u64 0, .int .u64 0, .int .u64 0, .int .u64 0, .int .u64 0, .int .i64 0, .int .u32 0, .int .i64 0, .int .i64 0, .int .i64 0, .int .u64 0, .int .i64 0, .int .i64 0, .int .u64 0, .slice none 0 0, .bool false, .int .i64 0, .slice none 0 0, .slice none 0 0, .slice none 0 0] (by rw [← HW1.out]; exact HGZ.out) (by kernel_rfl) rfl HONE.out ?_; rw [← HW1.out, HSR.out]))
  clear c0 c1 c2 c3 c3' c4 c5 c6 c6'
  go_wp2_with (refine wpList_load_row rfl 122 _ rfl (w.heap.size + 2) rfl 122 #[.int .i64 12, .int .i64 201, .int .i64 1, .int .i64 0, .int .u64 1, .int .u64 0, .int .u64 0, .int .u64 0, .int .u64 0, .int .u64 0, .int .i64 0, .int .u32 0, .int .i64 0, .int .i64 0, .int .i64 0, .int .u64 0, .int .i64 0, .int .i64 0, .int .u64 0, .slice none 0 0, .bool false, .int .i64 0, .slice none 0 0, .slice (some ⟨w.heap.size + 1, 0, none⟩) 1 1, .slice none 0 0] (0, 0) _ HR2.out Tryz.underlying122 rfl (by kernel_rfl) ?_)
  refine HLC.out.mono ?_
  rintro e w3 ⟨rfl, hk3⟩
  have HK3 := Lib.hid (HK2.out.trans hk3 (fun _ _ h => h))
  clear hk3
  rcases HZC.out with rfl | rfl
  all_goals
    go_wp2
    go_ret
    exact ⟨rfl, HK3.out⟩
set_option maxRecDepth 100000 in
set_option maxHeartbeats 4000000 in
theorem checkIn_17 (w : World) (v : Value) (x : Up) (F : Nat → Prop) (h : UpV w F v x) (hF : ∀ k, F k → k < w.heap.size) (ht : Tab10 w) : Calls Tryz.prog 153 #[.int .i64 17, v] w fun e w' => e = .returned (.int .i64 (chkU areReq x)) ∧ Kept NoB w w' := by
  obtain ⟨u, rfl, hd⟩ := h
  have HD := Lib.hid hd
  obtain ⟨va, vc, rfl, _⟩ := hd
  obtain ⟨y0, y1, y2, y3, y4, y5, y6⟩ := x
  simp only at HD ⊢
  have hka := (Kept.refl NoB w).alloc (.cells #[.int .u64 y0, .int .i64 y1, .int .u64 y2, .int .i64 y3, .int .u32 y4, .int .u64 y5, .slice va y6.length vc] 62)
  have HKA := Lib.hid hka
  have hb := heap_alloc_new w (.cells #[.int .u64 y0, .int .i64 y1, .int .u64 y2, .int .i64 y3, .int .u32 y4, .int .u64 y5, .slice va y6.length vc] 62)
  have HB := Lib.hid hb
  obtain ⟨c0, c1, c2, c3, c4, c5, c6⟩ := cells7 hb
  have HIK := Lib.hid (fun w => UisKind_any w y3)
  obtain ⟨cx, hcx⟩ : ∃ z, z = chkU areReq ⟨y0, y1, y2, y3, y4, y5, y6⟩ := ⟨_, rfl⟩
  rw [← hcx]
  have HCX := Lib.hid hcx
  by_cases hk : y3 = 2 ∨ y3 = 3
  rotate_left
  · have HX : Hid (cx = 1) := Lib.hid (by rw [hcx]; unfold chkU; rw [if_pos (by exact hk)])
    have hkb : decide (y3 = 2 ∨ y3 = 3) = false := decide_eq_false hk
    rw [hkb] at HIK
    clear hka hb hcx hk ht hF hkb c0 c1 c2 c4 c5 c6
    go_enter Tryz.func153, Tryz.ntmps153
    go_wp2_with fail
    refine (HIK.out _).mono ?_
    rintro e w1 ⟨rfl, rfl⟩
    go_wp2
    go_ret
    exact ⟨by rw [HX.out]; rfl, HKA.out⟩
  have hkb : decide (y3 = 2 ∨ y3 = 3) = true := decide_eq_true hk
  rw [hkb] at HIK
  by_cases hl : 2048 < y6.length
  · have HX : Hid (cx = 6) := Lib.hid (by rw [hcx]; unfold chkU; rw [if_neg (by exact fun h => h hk), if_pos (by exact hl)])
    have g1 : decide ((2048 : Int) < (y6.length : Int)) = true := decide_eq_true (by omega)
    clear hka hb hcx hk ht hF hkb hl c0 c1 c2 c4 c5
    go_enter Tryz.func153, Tryz.ntmps153
    go_wp2_with fail
    refine (HIK.out _).mono ?_
    rintro e w1 ⟨rfl, rfl⟩
    go_wp2
    go_ret
    exact ⟨by rw [HX.out]; rfl, HKA.out⟩
  have HX : Hid (cx = if areReq [⟨y0, y1, y2, y3, y4, y5, y6⟩] then 0 else 4) := Lib.hid (by rw [hcx]; unfold chkU; rw [if_neg (by exact fun h => h hk), if_neg (by exact hl)])
  have g1 : decide ((2048 : Int) < (y6.length : Int)) = false := decide_eq_false (by omega)
  -- the slice of one, and the letter
  obtain ⟨W1, hW1⟩ : ∃ W1, W1 = (w.alloc (.cells #[.int .u64 y0, .int .i64 y1, .int .u64 y2, .int .i64 y3, .int .u32 y4, .int .u64 y5, .slice va y6.length vc] 62)).alloc (.cells #[.int .u64 y0, .int .i64 y1, .int .u64 y2, .int .i64 y3, .int .u32 y4, .int .u64 y5, .slice va y6.length vc] 62) := ⟨_, rfl⟩
  have sw : (w.alloc (.cells #[.int .u64 y0, .int .i64 y1, .int .u64 y2, .int .i64 y3, .int .u32 y4, .int .u64 y5, .slice va y6.length vc] 62)).heap.size = w.heap.size + 1 := by simp
  have sW1 : W1.heap.size = w.heap.size + 2 := by rw [hW1]; simp
  have hk1 : Kept NoB w W1 := by rw [hW1]; exact hka.alloc _
  have hr1 : W1.heap[w.heap.size + 1]? = some (.cells #[.int .u64 y0, .int .i64 y1, .int .u64 y2, .int .i64 y3, .int .u32 y4, .int .u64 y5, .slice va y6.length vc] 62) := by
    have := heap_alloc_new (w.alloc (.cells #[.int .u64 y0, .int .i64 y1, .int .u64 y2, .int .i64 y3, .int .u32 y4, .int .u64 y5, .slice va y6.length vc] 62)) (.cells #[.int .u64 y0, .int .i64 y1, .int .u64 y2, .int .i64 y3, .int .u32 y4, .int .u64 y5, .slice va y6.length vc] 62)
    rw [sw] at this
    rw [hW1]; exact this
  obtain ⟨W2, hW2⟩ : ∃ W2, W2 = W1.alloc (.cells #[.int .i64 17, .int .i64 201, .int .i64 1, .int .i64 0, .int .u64 1, .int .u64 0, .int .u64 0, .int .u64 0, .int .u64 0, .int .u64 0, .int .i64 0, .int .u32 0, .int .i64 0, .int .i64 0, .int .i64 0, .int .u64 0, .int .i64 0, .int .i64 0, .int .u64 0, .slice none 0 0, .bool false, .int .i64 0, .slice none 0 0, .slice (some ⟨w.heap.size + 1, 0, none⟩) 1 1, .slice none 0 0] 122 (0, 0)) := ⟨_, rfl⟩
  have hk2 : Kept NoB w W2 := by rw [hW2]; exact hk1.alloc _
  have hk12 : Kept NoB W1 W2 := by rw [hW2]; exact (Kept.refl NoB W1).alloc _
  have hr2 : W2.heap[w.heap.size + 2]? = some (.cells #[.int .i64 17, .int .i64 201, .int .i64 1, .int .i64 0, .int .u64 1, .int .u64 0, .int .u64 0, .int .u64 0, .int .u64 0, .int .u64 0, .int .i64 0, .int .u32 0, .int .i64 0, .int .i64 0, .int .i64 0, .int .u64 0, .int .i64 0, .int .i64 0, .int .u64 0, .slice none 0 0, .bool false, .int .i64 0, .slice none 0 0, .slice (some ⟨w.heap.size + 1, 0, none⟩) 1 1, .slice none 0 0] 122 (0, 0)) := by
    have := heap_alloc_new W1 (.cells #[.int .i64 17, .int .i64 201, .int .i64 1, .int .i64 0, .int .u64 1, .int .u64 0, .int .u64 0, .int .u64 0, .int .u64 0, .int .u64 0, .int .i64 0, .int .u32 0, .int .i64 0, .int .i64 0, .int .i64 0, .int .u64 0, .int .i64 0, .int .i64 0, .int .u64 0, .slice none 0 0, .bool false, .int .i64 0, .slice none 0 0, .slice (some ⟨w.heap.size + 1, 0, none⟩) 1 1, .slice none 0 0] 122 (0, 0))
    rw [sW1] at this
    rw [hW2]; exact this
  have HSR : Hid ((W1.alloc (.cells #[.int .i64 0, .int .i64 0, .int .i64 0, .int .i64 0, .int .u64 0, .int .u64 0, .int .u64 0, .int .u64 0, .int .u64 0, .int .u64 0, .int .i64 0, .int .u32 0, .int .i64 0, .int .i64 0, .int .i64 0, .int .u64 0, .int .i64 0, .int .i64 0, .int .u64 0, .slice none 0 0, .bool false, .int .i64 0, .slice none 0 0, .slice none 0 0, .slice none 0 0] 122 (0, 0))).setRow (w.heap.size + 2) #[.int .i64 17, .int .i64 201, .int .i64 1, .int .i64 0, .int .u64 1, .int .u64 0, .int .u64 0, .int .u64 0, .int .u64 0, .int .u64 0, .int .i64 0, .int .u32 0, .int .i64 0, .int .i64 0, .int .i64 0, .int .u64 0, .int .i64 0, .int .i64 0, .int .u64 0, .slice none 0 0, .bool false, .int .i64 0, .slice none 0 0, .slice (some ⟨w.heap.size + 1, 0, none⟩) 1 1, .slice none 0 0] = W2) := Lib.hid (by
    have := World.setRow_alloc_new W1 #[.int .i64 0, .int .i64 0, .int .i64 0, .int .i64 0, .int .u64 0, .int .u64 0, .int .u64 0, .int .u64 0, .int .u64 0, .int .u64 0, .int .i64 0, .int .u32 0, .int .i64 0, .int .i64 0, .int .i64 0, .int .u64 0, .int .i64 0, .int .i64 0, .int .u64 0, .slice none 0 0, .bool false, .int .i64 0, .slice none 0 0, .slice none 0 0, .slice none 0 0] #[.int .i64 17, .int .i64 201, .int .i64 1, .int .i64 0, .int .u64 1, .int .u64 0, .int .u64 0, .int .u64 0, .int .u64 0, .int .u64 0, .int .i64 0, .int .u32 0, .int .i64 0, .int .i64 0, .int .i64 0, .int .u64 0, .int .i64 0, .int .i64 0, .int .u64 0, .slice none 0 0, .bool false, .int .i64 0, .slice none 0 0, .slice (some ⟨w.heap.size + 1, 0, none⟩) 1 1, .slice none 0 0] 122
    rw [sW1] at this
    rw [hW2]; exact this)
  have HGZ : Hid ((W1.alloc (.cells #[.int .i64 0, .int .i64 0, .int .i64 0, .int .i64 0, .int .u64 0, .int .u64 0, .int .u64 0, .int .u64 0, .int .u64 0, .int .u64 0, .int .i64 0, .int .u32 0, .int .i64 0, .int .i64 0, .int .i64 0, .int .u64 0, .int .i64 0, .int .i64 0, .int .u64 0, .slice none 0 0, .bool false, .int .i64 0, .slice none 0 0, .slice none 0 0, .slice none 0 0] 122 (0, 0))).heap[w.heap.size + 2]? = some (.cells #[.int .i64 0, .int .i64 0, .int .i64 0, .int .i64 0, .int .u64 0, .int .u64 0, .int .u64 0, .int .u64 0, .int .u64 0, .int .u64 0, .int .i64 0, .int .u32 0, .int .i64 0, .int .i64 0, .int .i64 0, .int .u64 0, .int .i64 0, .int .i64 0, .int .u64 0, .slice none 0 0, .bool false, .int .i64 0, .slice none 0 0, .slice none 0 0, .slice none 0 0] 122 (0, 0))) := Lib.hid (by
    have := heap_alloc_new W1 (.cells #[.int .i64 0, .int .i64 0, .int .i64 0, .int .i64 0, .int .u64 0, .int .u64 0, .int .u64 0, .int .u64 0, .int .u64 0, .int .u64 0, .int .i64 0, .int .u32 0, .int .i64 0, .int .i64 0, .int .i64 0, .int .u64 0, .int .i64 0, .int .i64 0, .int .u64 0, .slice none 0 0, .bool false, .int .i64 0, .slice none 0 0, .slice none 0 0, .slice none 0 0] 122 (0, 0))
    rw [sW1] at this
    exact this)
  have hone : (#[.int .i64 17, .int .i64 201, .int .i64 1, .int .i64 0, .int .u64 1, .int .u64 0, .int .u64 0, .int .u64 0, .int .u64 0, .int .u64 0, .int .i64 0, .int .u32 0, .int .i64 0, .int .i64 0, .int .i64 0, .int .u64 0, .int .i64 0, .int .i64 0, .int .u64 0, .slice none 0 0, .bool false, .int .i64 0, .slice none 0 0, .slice (some ⟨w.heap.size + 1, 0, none⟩) 1 1, .slice none 0 0] : Array Value).all (·.oneCell') = true := by rw [← Array.all_toList]; rfl
  have HONE := Lib.hid hone
  have HR2 := Lib.hid hr2
  have HW1 := Lib.hid hW1
  have HS1 := Lib.hid sW1
  have hus := UsAt.one (F := fun k => F k ∨ k = w.heap.size + 1) (x := ⟨y0, y1, y2, y3, y4, y5, y6⟩) (hk12.heap (fun h => h) hr1) (.inr rfl) ((HD.out.kept hk2 (fun _ _ h => h)).mono (fun k _ h => .inl h))
  have HLC := Lib.hid (LCheck_17 W2 (some ⟨w.heap.size + 1, 0, none⟩) 1 [⟨y0, y1, y2, y3, y4, y5, y6⟩] (fun k => F k ∨ k = w.heap.size + 1) hus (fun k h => h.elim (fun h => by have := hF k h; have := hk2.size; omega) (fun h => by have := hk12.size; omega)) (ht.kept hk2 (fun h => h)))
  have HK2 := Lib.hid hk2
  obtain ⟨z, hz⟩ : ∃ z : Int, z = if areReq [⟨y0, y1, y2, y3, y4, y5, y6⟩] then 0 else 4 := ⟨_, rfl⟩
  have hX := HX.out
  rw [← hz] at HLC hX
  have hzc : z = 0 ∨ z = 4 := by
    rw [hz]
    cases areReq [⟨y0, y1, y2, y3, y4, y5, y6⟩]
    · exact .inr rfl
    · exact .inl rfl
  subst hX
  have HZC := Lib.hid hzc
  clear hz HX HCX hzc
  clear hka hb hcx hk ht hF hkb hl hW1 sw sW1 hk1 hr1 hW2 hk2 hk12 hr2 hone hus c0 c1 c2 c4 c5
  obtain ⟨c0, c1, c2, c3', c4, c5, c6'⟩ := cells7 HB.out
  go_enter Tryz.func153, Tryz.ntmps153
  go_wp2_with fail
  refine (HIK.out _).mono ?_
  rintro e w1 ⟨rfl, rfl⟩
  go_upto_region 6 with (first
    | (refine wpList_store_row rfl 122 _ _ rfl (w.heap.size + 2) #[.int .i64 17, .int .i64 201, .int .i64 1, .int .i64 0, .int .u64 1, .int .u64 0, .int .u64 0, .int .u64 0, .int .u64 0, .int .u64 0, .int .i64 0, .int .u32 0, .int .i64 0, .int .i64 0, .int .i64 0, .int .u64 0, .int .i64 0, .int .i64 0, .int .u64 0, .slice none 0 0, .bool false, .int .i64 0, .slice none 0 0, .slice (some ⟨w.heap.size + 1, 0, none⟩) 1 1, .slice none 0 0] rfl rfl 122 #[.int .i64 0, .int .i64 0, .int .i64 0, .int .i64 0, .int .u64 0, .int .u64 0, .int .u64 0, .int .u64 0, .int .u64 0, .int .u64 0, .int .i64 0, .int .u32 0, .int .i64 0, .int .i64 0, .int .i64 0, .int .u64 0, .int .i64 0, .int .i64 0, .int .u64 0, .slice none 0 0, .bool false, .int .i64 0, .slice none 0 0, .slice none 0 0, .slice none 0 0] (by rw [← HW1.out]; exact HGZ.out) (by kernel_rfl) rfl HONE.out ?_; rw [← HW1.out, HSR.out]))
  clear c0 c1 c2 c3 c3' c4 c5 c6 c6'
  go_wp2_with (refine wpList_load_row rfl 122 _ rfl (w.heap.size + 2) rfl 122 #[.int .i64 17, .int .i64 201, .int .i64 1, .int .i64 0, .int .u64 1, .int .u64 0, .int .u64 0, .int .u64 0, .int .u64 0, .int .u64 0, .int .i64 0, .int .u32 0, .int .i64 0, .int .i64 0, .int .i64 0, .int .u64 0, .int .i64 0, .int .i64 0, .int .u64 0, .slice none 0 0, .bool false, .int .i64 0, .slice none 0 0, .slice (some ⟨w.heap.size + 1, 0, none⟩) 1 1, .slice none 0 0] (0, 0) _ HR2.out Tryz.underlying122 rfl (by kernel_rfl) ?_)
  refine HLC.out.mono ?_
  rintro e w3 ⟨rfl, hk3⟩
  have HK3 := Lib.hid (HK2.out.trans hk3 (fun _ _ h => h))
  clear hk3
  rcases HZC.out with rfl | rfl
  all_goals
    go_wp2
    go_ret
    exact ⟨rfl, HK3.out⟩
set_option maxRecDepth 100000 in
theorem UCheck_any (w : World) (v : Value) (x : Up) (F : Nat → Prop) (h : UpV w F v x) (hF : ∀ k, F k → k < w.heap.size) (ht : Tab10 w) : Calls Tryz.prog 83 #[v] w fun e w' => e = .returned (.int .i64 (chkU areUs x)) ∧ Kept NoB w w' := by
  obtain ⟨u, rfl, hd⟩ := h
  have HD := Lib.hid hd
  obtain ⟨va, vc, rfl, _⟩ := hd
  obtain ⟨y0, y1, y2, y3, y4, y5, y6⟩ := x
  simp only at HD ⊢
  have hka := (Kept.refl NoB w).alloc (.cells #[.int .u64 y0, .int .i64 y1, .int .u64 y2, .int .i64 y3, .int .u32 y4, .int .u64 y5, .slice va y6.length vc] 62)
  have HKA := Lib.hid hka
  obtain ⟨c0, c1, c2, c3, c4, c5, c6⟩ := cells7 (heap_alloc_new w (.cells #[.int .u64 y0, .int .i64 y1, .int .u64 y2, .int .i64 y3, .int .u32 y4, .int .u64 y5, .slice va y6.length vc] 62))
  have HC := Lib.hid (checkIn_12 (w.alloc (.cells #[.int .u64 y0, .int .i64 y1, .int .u64 y2, .int .i64 y3, .int .u32 y4, .int .u64 y5, .slice va y6.length vc] 62)) _ ⟨y0, y1, y2, y3, y4, y5, y6⟩ F ⟨_, rfl, HD.out.kept hka (fun _ _ h => h)⟩ (fun k h => by have := hF k h; have := hka.size; omega) (ht.kept hka (fun h => h)))
  obtain ⟨z, hz⟩ : ∃ z, z = chkU areUs ⟨y0, y1, y2, y3, y4, y5, y6⟩ := ⟨_, rfl⟩
  rw [← hz] at HC ⊢
  clear hka ht hF hz
  go_enter Tryz.func83, Tryz.ntmps83
  go_wp2_with fail
  refine HC.out.mono ?_
  rintro e w1 ⟨rfl, hk⟩
  have HK := Lib.hid (HKA.out.trans hk (fun _ _ h => h))
  clear hk
  go_wp2
  go_ret
  exact ⟨rfl, HK.out⟩
end Go.Proofs.YtnnmkmipeoajjaaGreatDoor
