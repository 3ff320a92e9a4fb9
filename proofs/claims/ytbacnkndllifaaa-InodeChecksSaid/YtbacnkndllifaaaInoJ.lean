/-
  Package inode: Of.
-/
import Derived.Test.YtbacnkndllifaaaInoI
namespace Go.Proofs.Ytbacnkndllifaaa
open Go.RowKit
set_option linter.unusedVariables false

/-- An inode and an error. -/
def IRes (er m s : Int) (l : List Xt) (w : World) (e : Ending) (w' : World) : Prop := ∃ a c, e = .returned (.tuple #[iv28 m s (.slice a l.length c), .int .i64 er]) ∧ XSl w' (fun k => w.heap.size ≤ k) (.slice a l.length c) l ∧ Kept NoB w w'
/-- What Of tells. -/
def ofE (m s : Int) (bs : List Int) : Int := if m = 0 then 1 else chk28 m s (exts bs)
def ofR (m s : Int) (bs : List Int) : Int × Int × List Xt := if ofE m s bs = 0 then (m, s, exts bs) else (0, 0, [])
theorem box3k {w w' : World} {g : Nat} {x y z : Value} {t : TypeId} (h : w.heap[g]? = some (.cells #[x, y, z] t (0, 0))) (hk : Kept NoB w w') : w'.heap[g]? = some (.cells #[x, y, z] t (0, 0)) := hk.heap (fun h => h) h
theorem frz3 {w : World} {g : Nat} {cs : Array Value} {t : TypeId} (h : w.heap[g]? = some (.cells cs t (0, 0))) (o : Nat) : w.frozen? ⟨g, o, none⟩ = false := by simp [World.frozen?, h]
theorem set3_heap {w : World} {g : Nat} {x y z : Value} {t : TypeId} (h : w.heap[g]? = some (.cells #[x, y, z] t (0, 0))) (a b c : Value) :
    (((w.setCell ⟨g, 0, none⟩ a).setCell ⟨g, 1, none⟩ b).setCell ⟨g, 2, none⟩ c).heap[g]? = some (.cells #[a, b, c] t (0, 0)) := by
  have h1 := heap_setCell_same w g 0 _ _ a h
  have h2 := heap_setCell_same _ g 1 _ _ b h1
  have h3 := heap_setCell_same _ g 2 _ _ c h2
  exact h3
theorem set3_kept (w : World) (g : Nat) (a b c : Value) : Kept (fun k => k = g) w (((w.setCell ⟨g, 0, none⟩ a).setCell ⟨g, 1, none⟩ b).setCell ⟨g, 2, none⟩ c) :=
  (((Kept.refl (fun k => k = g) w).setCell (p := ⟨g, 0, none⟩) (.inl rfl) a).setCell (p := ⟨g, 1, none⟩) (.inl rfl) b).setCell (p := ⟨g, 2, none⟩) (.inl rfl) c
set_option maxRecDepth 100000 in
theorem iOf_any (m s : Int) (v : Value) (bs : List Int) (F : Nat → Prop) (w : World) (h : NSl w F v bs) (hl : bs.length ≤ 10000) (h0 : -9223372036854775808 ≤ s) (h1 : s ≤ 9223372036854775807) :
    Calls Try.prog 44 #[.int .i64 m, .int .i64 s, v] w (IRes (ofE m s bs) (ofR m s bs).1 (ofR m s bs).2.1 (ofR m s bs).2.2 w) := by
  have hk0 := (Kept.refl NoB w).alloc (.cells #[.int .i64 0, .int .i64 0, .slice none 0 0] 47)
  have HK0 := Lib.hid hk0
  have hb := heap_alloc_new w (.cells #[.int .i64 0, .int .i64 0, .slice none 0 0] 47)
  have HB := Lib.hid hb
  by_cases hm : m = 0
  · have he : ofE m s bs = 1 := by unfold ofE; rw [if_pos hm]
    rw [show ofR m s bs = (0, 0, []) by unfold ofR; rw [he]; rfl, he]
    have d1 : (m == 0) = true := by rw [hm]; rfl
    obtain ⟨c0, c1, c2⟩ := cells3 hb
    clear hm he h hk0 hb
    go_enter Try.func44, Try.ntmps44
    go_wp2
    exact bodyPost_ret (v := .tuple #[iv28 0 0 (.slice none 0 0), .int .i64 1]) (by simp [results, Try.results44, go_sem, c0, c1, c2]) rfl ⟨none, 0, rfl, XSl.nil _ _, HK0.out⟩
  · have d1 : (m == 0) = false := by simpa using hm
    have hx := Nat.le_trans (exts_len bs) hl
    have HE := Lib.hid (extents_any v bs _ _ (h.kept hk0 (fun _ _ _ h => h)) hl)
    have hr : ofR m s bs = if chk28 m s (exts bs) = 0 then (m, s, exts bs) else (0, 0, []) := by unfold ofR ofE; rw [if_neg hm]
    rw [show ofE m s bs = chk28 m s (exts bs) by unfold ofE; rw [if_neg hm], hr]
    obtain ⟨L, hL⟩ : ∃ L, L = exts bs := ⟨_, rfl⟩
    rw [← hL] at HE ⊢
    have HCK := Lib.hid (fun u W (hx : XSl W (fun _ => True) u L) => iCheck_any m s u L _ W hx h0 h1)
    obtain ⟨er, her⟩ : ∃ er, er = chk28 m s L := ⟨_, rfl⟩
    rw [← her] at HCK ⊢
    clear hm h hk0 hb hr hL her
    by_cases hz : er = 0
    · rw [if_pos hz, hz]
      rw [hz] at HCK
      clear hz
      go_enter Try.func44, Try.ntmps44
      go_wp2_with (first
        | (go_at_call 73; refine HE.out.mono ?_; rintro e w1 ⟨a1, q1, rfl, ho, hk⟩; (have hk1 := (Kept.refl NoB w1).alloc (.cells #[.int .i64 m, .int .i64 s, .slice a1 L.length q1] 47)); have HB1 := Lib.hid (box3k (box3k HB.out hk) hk1); have HXL := Lib.hid ((ho.sl.mono (G := fun k => w.heap.size + 1 ≤ k) (fun k _ hx => by simp at hx; omega)).no hk1); have HK1 := Lib.hid ((HK0.out.trans hk (fun _ _ h => h)).trans hk1 (fun _ _ h => h)); have HZ := Lib.hid (heap_alloc_new w1 (.cells #[.int .i64 m, .int .i64 s, .slice a1 L.length q1] 47)); clear ho hk hk1)
        | (go_at_call 31; refine (HCK.out _ _ HXL.out.any).mono ?_; rintro e w3 ⟨rfl, hk⟩; have HB3 := Lib.hid (box3k HB1.out hk); have hz3 := box3k HZ.out hk; obtain ⟨e0, e1, e2⟩ := cells3 hz3; obtain ⟨c0, c1, c2⟩ := cells3 HB3.out; have f0 := frz3 HB3.out 0; have f1 := frz3 HB3.out 1; have f2 := frz3 HB3.out 2; have HXL3 := Lib.hid (HXL.out.no hk); have HK3 := Lib.hid (HK1.out.trans hk (fun _ _ h => h)); clear hk hz3))
      obtain ⟨r0, r1, r2⟩ := cells3 (set3_heap HB3.out (.int .i64 m) (.int .i64 s) (.slice a1 L.length q1))
      exact bodyPost_ret (v := .tuple #[iv28 m s (.slice a1 L.length q1), .int .i64 0]) (by simp [results, Try.results44, go_sem, r0, r1, r2]) rfl ⟨a1, q1, rfl, (HXL3.out.kept (set3_kept _ _ _ _ _) (fun k _ hk he => by omega)).mono (fun k _ hx => by omega), (HK3.out.trans (set3_kept _ _ _ _ _) (fun i hi he => absurd hi (by omega)))⟩
    · rw [if_neg hz]
      have hne : (er != 0) = true := bne_iff_ne.2 hz
      clear hz
      go_enter Try.func44, Try.ntmps44
      go_wp2_with (first
        | (go_at_call 73; refine HE.out.mono ?_; rintro e w1 ⟨a1, q1, rfl, ho, hk⟩; (have hk1 := (Kept.refl NoB w1).alloc (.cells #[.int .i64 m, .int .i64 s, .slice a1 L.length q1] 47)); have HB1 := Lib.hid (box3k (box3k HB.out hk) hk1); have HXL := Lib.hid ((ho.sl.mono (G := fun k => w.heap.size + 1 ≤ k) (fun k _ hx => by simp at hx; omega)).no hk1); have HK1 := Lib.hid ((HK0.out.trans hk (fun _ _ h => h)).trans hk1 (fun _ _ h => h)); have HZ := Lib.hid (heap_alloc_new w1 (.cells #[.int .i64 m, .int .i64 s, .slice a1 L.length q1] 47)); clear ho hk hk1)
        | (go_at_call 31; refine (HCK.out _ _ HXL.out.any).mono ?_; rintro e w3 ⟨rfl, hk⟩; have HB3 := Lib.hid (box3k HB1.out hk); have hz3 := box3k HZ.out hk; obtain ⟨e0, e1, e2⟩ := cells3 hz3; obtain ⟨c0, c1, c2⟩ := cells3 HB3.out; have f0 := frz3 HB3.out 0; have f1 := frz3 HB3.out 1; have f2 := frz3 HB3.out 2; have HXL3 := Lib.hid (HXL.out.no hk); have HK3 := Lib.hid (HK1.out.trans hk (fun _ _ h => h)); clear hk hz3))
      obtain ⟨r0, r1, r2⟩ := cells3 (set3_heap HB3.out (.int .i64 0) (.int .i64 0) (.slice none 0 0))
      exact bodyPost_ret (v := .tuple #[iv28 0 0 (.slice none 0 0), .int .i64 er]) (by simp [results, Try.results44, go_sem, r0, r1, r2]) rfl ⟨none, 0, rfl, XSl.nil _ _, (HK3.out.trans (set3_kept _ _ _ _ _) (fun i hi he => absurd hi (by omega)))⟩
end Go.Proofs.Ytbacnkndllifaaa
