/-
  Package craq: Now (of a dirty block), Then; the chapter's two and awake.
-/
import Derived.Test.YtnnmkmipeoajjaaGreatDoorCrqI
import Derived.Test.YtnnmkmipeoajjaaGreatDoorSto1
namespace Go.Proofs.YtnnmkmipeoajjaaGreatDoor
open Go.RowKit
set_option linter.unusedVariables false
set_option linter.unusedSimpArgs false

set_option maxRecDepth 100000 in
theorem CNow_dirty (w : World) (s : Value) (k done : Int) (x v : Value) (l : List Vn) (F : Nat → Prop) (hs : TBlk w s k x) (ht : TellsV w x v) (h : VsAt w F v l) (hd : dirtyB l done = true) : Calls Tryz.prog 31 #[s, .int .u32 k, .int .u64 done] w fun e w' => e = .returned (.tuple #[.agg #[.int .u64 0, .int .u64 0, .slice none 0 0], .bool false]) ∧ Kept NoB w w' := by
  have hk0 := (Kept.refl NoB w).alloc (.cells #[.int .u64 0, .int .u64 0, .slice none 0 0] 75)
  have hdr := TDirty_any _ s k done x v l F (fun w' hk => hs w' (hk0.trans hk (fun _ _ h => h))) (ht.no hk0) (h.no hk0)
  rw [hd] at hdr
  have HD := Lib.hid hdr
  have HK := Lib.hid hk0
  have HB := Lib.hid (heap_alloc_new w (.cells #[.int .u64 0, .int .u64 0, .slice none 0 0] 75))
  clear hs h ht hk0 hd hdr
  go_enter Tryz.func31, Tryz.ntmps31
  go_wp2_with fail
  refine HD.out.mono ?_
  rintro e w3 ⟨rfl, hk3⟩
  have HK3 := Lib.hid (HK.out.trans hk3 (fun _ _ h => h))
  have HB3 := Lib.hid (hk3.heap (fun h => h) HB.out)
  obtain ⟨r0, r1, r2⟩ := cells3v HB3.out
  have z := blkV_frozen HB3.out
  clear hk3
  go_wp2
  clear r0 r1 r2 z
  obtain ⟨r0, r1, r2, hO, hK⟩ := fin15 (F := NoB) HB3.out (Nat.le_refl _) HK3.out (fun k h e => h.elim) vn0 _ rfl (Own.nil _ _)
  unfold three15 at r0 r1 r2 hK
  simp only [Nat.zero_add, vn0] at r0 r1 r2 hK
  exact bodyPost_ret (v := .tuple #[.agg #[.int .u64 0, .int .u64 0, .slice none 0 0], .bool false]) (by simp [results, Tryz.results31, go_sem, r0, r1, r2]) rfl ⟨rfl, hK⟩
def CThenP (w : World) (x : Vn) (ver : Int) (e : Ending) (w' : World) : Prop :=
  ∃ v', e = .returned (.tuple #[v', .bool (x.r != 0 || ver == 0)]) ∧ VnO w' (fun k => w.heap.size < k) v' x ∧ Kept NoB w w'
set_option maxRecDepth 100000 in
theorem CThen_any (w : World) (s : Value) (k ver done : Int) (x v : Value) (l : List Vn) (F : Nat → Prop) (hs : TBlk w s k x) (ht : TellsV w x v) (h : VsAt w F v l) (hasc : Asc l) (hl : l.length ≤ 100000) : Calls Tryz.prog 33 #[s, .int .u32 k, .int .u64 ver, .int .u64 done] w (CThenP w (pickV l ver done) ver) := by
  have hk0 := (Kept.refl NoB w).alloc (.cells #[.int .u64 0, .int .u64 0, .slice none 0 0] 75)
  have hdp := TPick_any _ s k ver done x v l F (fun w' hk => hs w' (hk0.trans hk (fun _ _ h => h))) (ht.no hk0) (h.no hk0) hasc hl
  obtain ⟨y, hy⟩ : ∃ y, y = pickV l ver done := ⟨_, rfl⟩
  rw [← hy] at hdp ⊢
  have HD := Lib.hid hdp
  have HK := Lib.hid hk0
  have HB := Lib.hid (heap_alloc_new w (.cells #[.int .u64 0, .int .u64 0, .slice none 0 0] 75))
  have HZ : Hid ((w.alloc (.cells #[.int .u64 0, .int .u64 0, .slice none 0 0] 75)).heap.size = w.heap.size + 1) := Lib.hid (by simp)
  clear hs h ht hk0 hdp hy
  go_enter Tryz.func33, Tryz.ntmps33
  go_wp2_with fail
  refine HD.out.mono ?_
  rintro e w3 ⟨v3, rfl, hv3, hk3⟩
  have hv3 := hv3.mono (G := fun k => w.heap.size < k) (fun k _ h => by have := HZ.out; omega)
  obtain ⟨y0, y1, y2⟩ := y
  obtain ⟨u, rfl, hu⟩ := hv3
  obtain ⟨va, vc, rfl⟩ := own_form hu.2.1
  have hk4 := (Kept.refl NoB w3).alloc (.cells #[.int .u64 y0, .int .u64 y1, .slice va y2.length vc] 75)
  have HK4 := Lib.hid ((HK.out.trans hk3 (fun _ _ h => h)).trans hk4 (fun _ _ h => h))
  have HB4 := Lib.hid (hk4.heap (fun h => h) (hk3.heap (fun h => h) HB.out))
  have HN4 := Lib.hid (heap_alloc_new w3 (.cells #[.int .u64 y0, .int .u64 y1, .slice va y2.length vc] 75))
  have HU := Lib.hid (hu.kept hk4 (fun _ _ h => h))
  have hb3 := heap_lt (hk3.heap (fun h => h) HB.out)
  have hne : ¬ w.heap.size = w3.heap.size := by omega
  have hne2 : ¬ w3.heap.size = w.heap.size := by omega
  clear hk3 hu hk4
  go_upto_region 2 with fail
  obtain ⟨r0, r1, r2⟩ := cells3v HB4.out
  have z := blkV_frozen HB4.out
  obtain ⟨n0, n1, n2⟩ := cells3v HN4.out
  obtain ⟨W, hW⟩ : ∃ W, W = w3.alloc (.cells #[.int .u64 y0, .int .u64 y1, .slice va y2.length vc] 75) := ⟨_, rfl⟩
  rw [← hW] at HB4 HU HK4 r0 r1 r2 z n0 n1 n2 ⊢
  clear hW HN4
  by_cases h0 : y0 = 0
  · subst h0
    have e1 : ((0 : Int) != 0) = false := by decide
    go_wp2
    clear r0 r1 r2 z
    obtain ⟨r0, r1, r2, hO, hK⟩ := fin15 HB4.out (Nat.le_refl _) HK4.out (fun k h e => by omega) ⟨0, y1, y2⟩ _ rfl HU.out
    unfold three15 at r0 r1 r2 hK hO
    simp only [Nat.zero_add] at r0 r1 r2 hK hO
    generalize hW : World.setCell _ _ _ = W3 at r0 r1 r2 hK hO ⊢
    exact bodyPost_ret (v := .tuple #[.agg #[.int .u64 0, .int .u64 y1, .slice va y2.length vc], .bool (ver == 0)]) (by simp [results, Tryz.results33, go_sem, r0, r1, r2]) rfl ⟨_, by simp, hO, hK⟩
  · have e1 : (y0 != 0) = true := by simpa using h0
    go_wp2
    clear r0 r1 r2 z
    obtain ⟨r0, r1, r2, hO, hK⟩ := fin15 HB4.out (Nat.le_refl _) HK4.out (fun k h e => by omega) ⟨y0, y1, y2⟩ _ rfl HU.out
    unfold three15 at r0 r1 r2 hK hO
    simp only [Nat.zero_add] at r0 r1 r2 hK hO
    generalize hW : World.setCell _ _ _ = W3 at r0 r1 r2 hK hO ⊢
    exact bodyPost_ret (v := .tuple #[.agg #[.int .u64 y0, .int .u64 y1, .slice va y2.length vc], .bool true]) (by simp [results, Tryz.results33, go_sem, r0, r1, r2]) rfl ⟨_, by simp [h0], hO, hK⟩
def u221 : Up := ⟨1, 1, 1, 2, 7, 0, []⟩
def u222 : Up := ⟨2, 1, 2, 2, 7, 0, []⟩
theorem fit221 : FitU u221 := by unfold FitU u221; simp
theorem fit222 : FitU u222 := by unfold FitU u222; simp
theorem two22_row : judR (putR [] (rowU u221 (0, 1, true))) 1 2 = 0 := by decide
def TwoP (w : World) (e : Ending) (w' : World) : Prop :=
  ∃ g bm t M R, e = .returned (.pointer (some ⟨g, 0, none⟩)) ∧ StAt w' g bm t 2 M R ∧ lsK M 7 = [⟨1, 1, []⟩, ⟨2, 2, []⟩] ∧ Kept NoB w w'
set_option maxRecDepth 100000 in
theorem two22_any (w : World) (ht : Tab10 w) : Calls Tryz.prog 81 #[] w (TwoP w) := by
  have HT := Lib.hid ht
  have HN := Lib.hid (TNew_any w)
  clear ht
  go_enter Tryz.func81, Tryz.ntmps81
  go_wp2_with fail
  refine HN.out.mono ?_
  rintro e w1 ⟨g, bm, t, rfl, hs, hg, hbm, htt, hk⟩
  have HA := Lib.hid (TApply_fresh w1 g bm t 0 [] [] _ u221 NoB hs ⟨_, rfl, BSl.nil _ _⟩ (fun k h => h.elim) (HT.out.kept hk (fun h => h)) fit221 (by decide) (by decide) (by decide) (by decide) (by decide) (by decide) (by decide) (by decide) (0, 1, true) (by decide) (by decide) (by decide) (by decide) (by decide))
  have HK := Lib.hid hk
  clear hs hk
  go_wp2_with fail
  refine HA.out.mono ?_
  rintro e w2 ⟨rfl, hk2, M', hs2, _, hM⟩
  obtain ⟨b, G, rfl, hG⟩ := hM trivial
  have hk2' : Kept NoB w w2 := HK.out.trans hk2 (fun i hi h => by
    rcases h with h | h | h | ⟨x, h, _⟩
    · omega
    · omega
    · omega
    · cases h)
  obtain ⟨M1, hM1⟩ : ∃ M1, M1 = putK [] ⟨u221.key, b, G, lsK [] u221.key ++ [⟨1, u221.q, u221.d⟩]⟩ := ⟨_, rfl⟩
  have hm1 : M1.length = 1 := by rw [hM1]; rfl
  have hl1 : lsK M1 u222.key = [⟨1, 1, []⟩] := by rw [hM1]; rfl
  have hg1 : ∀ x ∈ M1, x.G = G := fun x hx => by rw [hM1] at hx; simp only [putK, List.mem_singleton] at hx; rw [hx]
  have hs2 : StAt w2 g bm t 1 M1 (putR [] (rowU u221 (0, 1, true))) := by rw [hM1]; exact hs2
  have HA2 := Lib.hid (TApply_fresh w2 g bm t 1 _ _ _ u222 NoB hs2 ⟨_, rfl, BSl.nil _ _⟩ (fun k h => h.elim) (HT.out.kept hk2' (fun h => h)) fit222 (by decide) (by decide) two22_row (by rw [hl1]; decide) (by rw [hm1]; decide) (by rw [hl1]; decide) (by rw [hl1]; decide) (by rw [hl1]; decide) (0, 2, true) (by rw [hl1, hm1]; decide) (by decide) (by decide) (by decide) (by rw [hl1]; decide))
  have HL1 := Lib.hid hl1
  have HG1 := Lib.hid hg1
  have HK2 := Lib.hid hk2'
  have HG := Lib.hid hG
  have HS1 := HK.out.size
  clear hs2 hk2 hk2' hM hG hM1 hm1 hl1 hg1
  go_wp2_with fail
  refine HA2.out.mono ?_
  rintro e w3 ⟨rfl, hk3, M3, hs3, _, hM3⟩
  obtain ⟨b3, G3, rfl, hG3⟩ := hM3 trivial
  have hk3' : Kept NoB w w3 := HK2.out.trans hk3 (fun i hi h => by
    rcases h with h | h | h | ⟨x, hx, h⟩
    · omega
    · omega
    · omega
    · rw [HG1.out x hx] at h
      rcases HG.out i h with h | h
      · rcases h with h | h | h | ⟨x, h, _⟩
        · omega
        · omega
        · omega
        · cases h
      · omega)
  have HK3 := Lib.hid hk3'
  have HS3 := Lib.hid hs3
  clear hs3 hk3 hk3' hM3
  go_wp2
  go_ret
  refine ⟨g, bm, t, _, _, rfl, HS3.out, ?_, HK3.out⟩
  have h := atK_put_same (L := M1) ⟨u222.key, b3, G3, lsK M1 u222.key ++ [⟨2, u222.q, u222.d⟩]⟩
  unfold lsK at h ⊢
  rw [show (7 : Int) = u222.key from rfl]
  rw [h]
  have hl1 := HL1.out
  unfold lsK at hl1
  simp only [Option.map_some, Option.getD_some]
  rw [hl1]
  rfl
theorem pick221 : pickV [⟨1, 1, []⟩, ⟨2, 2, []⟩] 1 1 = ⟨1, 1, []⟩ := by rfl
theorem pick222 : pickV [⟨1, 1, []⟩, ⟨2, 2, []⟩] 2 1 = ⟨2, 2, []⟩ := by rfl
set_option maxRecDepth 100000 in
theorem awake22 (w : World) (ht : Tab10 w) : Calls Tryz.prog 24 #[] w fun e w' => e = .returned (.bool true) ∧ Kept NoB w w' := by
  have HN := Lib.hid (two22_any w ht)
  clear ht
  go_enter Tryz.func24, Tryz.ntmps24
  go_wp2_with fail
  refine HN.out.mono ?_
  rintro e w1 ⟨g, bm, t, M, R, rfl, hs, hl, hk⟩
  obtain ⟨x, v, F, hb, hv, ha, hasc⟩ := hs.block (k := 7) (by decide) (by decide)
  rw [hl] at ha hasc
  have HB := Lib.hid hb
  have HV := Lib.hid hv
  have HA := Lib.hid ha
  have HC := Lib.hid hasc
  have HK := Lib.hid hk
  have H1 := Lib.hid (CNow_dirty w1 _ 7 1 x v _ F hb hv ha (by decide))
  clear hs hl hk hb hv ha hasc
  go_wp2_with fail
  refine H1.out.mono ?_
  rintro e w2 ⟨rfl, hk2⟩
  have hk2a := hk2.alloc (.cells #[.int .u64 0, .int .u64 0, .slice none 0 0] 75)
  have HK2 := Lib.hid hk2a
  have h2c := CThen_any _ _ 7 1 1 x v _ F (fun w' hk => HB.out w' (hk2a.trans hk (fun _ _ h => h))) (HV.out.no hk2a) (HA.out.no hk2a) HC.out (by decide)
  rw [pick221] at h2c
  have H2 := Lib.hid h2c
  clear hk2 hk2a h2c
  go_wp2_with fail
  refine H2.out.mono ?_
  rintro e w3 ⟨v3, rfl, ⟨u3, rfl, hu3⟩, hk3⟩
  obtain ⟨a3, c3, rfl⟩ := own_form hu3.2.1
  clear hu3
  simp only [List.length_nil]
  have hk3a := (HK2.out.trans hk3 (fun _ _ h => h)).alloc (.cells #[.int .u64 1, .int .u64 1, Value.slice a3 0 c3] 75)
  have HN3 := Lib.hid (heap_alloc_new w3 (.cells #[.int .u64 1, .int .u64 1, Value.slice a3 0 c3] 75))
  have HK3 := Lib.hid hk3a
  have h3c := CThen_any _ _ 7 2 1 x v _ F (fun w' hk => HB.out w' (hk3a.trans hk (fun _ _ h => h))) (HV.out.no hk3a) (HA.out.no hk3a) HC.out (by decide)
  rw [pick222] at h3c
  have H3 := Lib.hid h3c
  obtain ⟨a0, a1, a2⟩ := cells3v (heap_alloc_new w3 (.cells #[.int .u64 1, .int .u64 1, Value.slice a3 0 c3] 75))
  obtain ⟨b, hb⟩ : ∃ b, b = w3.heap.size := ⟨_, rfl⟩
  have hbl : b < (w3.alloc (.cells #[.int .u64 1, .int .u64 1, Value.slice a3 0 c3] 75)).heap.size := by rw [hb]; simp
  rw [← hb] at HN3
  clear hk3 hk3a h3c a0 a1 a2
  go_wp2_with fail
  refine H3.out.mono ?_
  rintro e w4 ⟨v4, rfl, ⟨u4, rfl, hu4⟩, hk4⟩
  obtain ⟨a4, c4, rfl⟩ := own_form hu4.2.1
  clear hu4
  simp only [List.length_nil]
  rw [← hb]
  have hk4a := (HK3.out.trans hk4 (fun _ _ h => h)).alloc (.cells #[.int .u64 2, .int .u64 2, Value.slice a4 0 c4] 75)
  have HK4 := Lib.hid hk4a
  have HN4 := Lib.hid ((hk4.alloc (.cells #[.int .u64 2, .int .u64 2, Value.slice a4 0 c4] 75)).heap (fun h => h) HN3.out)
  obtain ⟨a0, a1, a2⟩ := cells3v HN4.out
  obtain ⟨b0, b1, b2⟩ := cells3v (heap_alloc_new w4 (.cells #[.int .u64 2, .int .u64 2, Value.slice a4 0 c4] 75))
  have hbl4 : b < w4.heap.size := Nat.lt_of_lt_of_le hbl hk4.size
  have hbn : ¬ b = w4.heap.size := by omega
  clear hk4 hk4a hb
  go_wp2
  go_ret
  exact ⟨rfl, HK.out.trans HK4.out (fun _ _ h => h)⟩
end Go.Proofs.YtnnmkmipeoajjaaGreatDoor
