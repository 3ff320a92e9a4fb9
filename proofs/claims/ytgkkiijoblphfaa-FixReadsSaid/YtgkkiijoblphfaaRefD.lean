/-
  What the plain functions of the chapter's package (catenaryref01) do: Get, Read, Bool and Done.
-/
import Derived.Test.YtgkkiijoblphfaaRefC
namespace Go.Proofs.Ytgkkiijoblphfaa
open Go.RowKit

theorem after_call {w w1 : World} {o1 : Obj} (hk : Kept NoB ((w.alloc o1).alloc (.cells #[.slice none 0 0, .int .i64 0] 29)) w1) :
    w1.cell? ⟨w.heap.size + 1, 0, none⟩ = some (.slice none 0 0) ∧ w1.cell? ⟨w.heap.size + 1, 1, none⟩ = some (.int .i64 0) ∧ w1.frozen? ⟨w.heap.size + 1, 0, none⟩ = false ∧ w1.frozen? ⟨w.heap.size + 1, 1, none⟩ = false ∧
      w.heap.size + 1 < w1.heap.size ∧ Kept NoB w w1 := by
  have hb := res_block hk
  exact ⟨cell_of_row w1 _ 0 _ _ _ hb, cell_of_row w1 _ 1 _ _ _ hb, blk_frozen hb 0, blk_frozen hb 1, heap_lt hb, (((Kept.refl NoB w).alloc _).alloc _).trans hk (fun _ _ h => h)⟩
theorem notGe {F : Nat → Prop} {n : Nat} (hF : ∀ k, F k → k < n) : ∀ k, F k → ¬ Ge n k := fun k hk h => by
  have h1 := hF k hk
  have h2 : n ≤ k := h
  omega
theorem ISt.get_le (s : ISt) (hb : IsB s.l) (width : Int) : 0 ≤ (s.get width).2 ∧ (s.get width).2 ≤ 18446744073709551615 := by
  unfold ISt.get
  split
  · exact ⟨Int.le_refl _, by show (0 : Int) ≤ 18446744073709551615; omega⟩
  · rename_i hw
    have hl := s.raw_len width
    have hB : IsB (s.raw width).2 := by
      unfold ISt.raw
      split
      · split
        · exact IsB.nil
        · split
          · exact IsB.nil
          · exact hb.take _
      · exact IsB.nil
    have h1 := num_lt _ hB
    have h3 : 256 ^ (s.raw width).2.length ≤ 256 ^ 8 := Nat.pow_le_pow_right (by decide) (by omega)
    show (0 : Int) ≤ (num (s.raw width).2 : Int) ∧ (num (s.raw width).2 : Int) ≤ 18446744073709551615
    omega
theorem ISt.upto_all (s : ISt) (hb : IsB s.l) (width : Int) : s.upto width 18446744073709551615 = s.get width := by
  rw [s.upto_get width _ (by omega), if_neg (by have := s.get_le hb width; omega)]

set_option maxRecDepth 100000 in
/-- Get. -/
theorem RGet_any (v : Value) (s : ISt) (width : Int) (F : Nat → Prop) (w : World) (h : RAt w F v s) (hF : ∀ k, F k → k < w.heap.size) :
    Calls Try.prog 6 #[v, .int .i64 width] w fun r w' => ∃ v', r = .returned (.tuple #[v', .int .u64 (s.get width).2]) ∧ RAt w' F v' (s.get width).1 ∧ Kept NoB w w' := by
  have HR := Lib.hid h
  have HF0 := Lib.hid hF
  have HF := Lib.hid (notGe hF)
  obtain ⟨hok, b, rfl, hb⟩ := h
  have HU := Lib.hid (s.upto_all hb.isB width)
  obtain ⟨a, cap, rfl, _⟩ := hb
  clear hF
  go_enter Try.func6, Try.ntmps6
  go_wp2_with fail
  refine (RUpto_any _ s width _ F _ (HR.out.kept (S := NoB) (((Kept.refl _ _).alloc _).alloc _) (fun _ _ h => h)) (fun k hk => by have := HF0.out k hk; simp; omega)).mono ?_
  rintro e w1 ⟨v', rfl, hv', hk1⟩
  have HV := Lib.hid hv'
  obtain ⟨_, b', rfl, a', cap', rfl, _⟩ := hv'
  obtain ⟨d0, d1, e0, e1, hsz, hk2⟩ := after_call hk1
  have HK := Lib.hid hk2
  clear hk1 hk2
  rw [HU.out] at HV ⊢
  generalize hs1 : (s.get width).1 = s1 at *
  generalize hn1 : (s.get width).2 = n1 at *
  have HS1 := Lib.hid hs1
  have HN1 := Lib.hid hn1
  clear hs1 hn1
  obtain ⟨m, hm⟩ : ∃ m, m = s1.l.length := ⟨_, rfl⟩
  rw [← hm]
  have HM := Lib.hid hm
  clear hm
  go_wp2
  refine bodyPost_ret (v := .tuple #[.agg #[.slice a' m cap', .int .i64 s1.err], .int .u64 n1]) (by simp [results, Try.results6, go_sem, d0, d1]) rfl ⟨.agg #[.slice a' m cap', .int .i64 s1.err], by rw [HN1.out], ?_, ?_⟩
  · rw [HS1.out, HM.out]
    exact HV.out.kept (S := Ge w.heap.size) (((Kept.refl _ _).ge (by omega) _ _).ge (by omega) _ _) HF.out
  · exact (HK.out.new (by omega) _ _).new (by omega) _ _

/-- Bool. -/
theorem RBool_any (v : Value) (s : ISt) (F : Nat → Prop) (w : World) (h : RAt w F v s) (hF : ∀ k, F k → k < w.heap.size) :
    Calls Try.prog 14 #[v] w fun r w' => ∃ v', r = .returned (.tuple #[v', .bool ((s.upto 1 1).2 == 1)]) ∧ RAt w' F v' (s.upto 1 1).1 ∧ Kept NoB w w' := by
  have HR := Lib.hid h
  have HF0 := Lib.hid hF
  have HF := Lib.hid (notGe hF)
  obtain ⟨hok, b, rfl, hb⟩ := h
  obtain ⟨a, cap, rfl, _⟩ := hb
  clear hF
  go_enter Try.func14, Try.ntmps14
  go_wp2_with fail
  refine (RUpto_any _ s 1 1 F _ (HR.out.kept (S := NoB) (((Kept.refl _ _).alloc _).alloc _) (fun _ _ h => h)) (fun k hk => by have := HF0.out k hk; simp; omega)).mono ?_
  rintro e w1 ⟨v', rfl, hv', hk1⟩
  have HV := Lib.hid hv'
  obtain ⟨_, b', rfl, a', cap', rfl, _⟩ := hv'
  obtain ⟨d0, d1, e0, e1, hsz, hk2⟩ := after_call hk1
  have HK := Lib.hid hk2
  clear hk1 hk2
  generalize hs1 : (s.upto 1 1).1 = s1 at *
  generalize hn1 : (s.upto 1 1).2 = n1 at *
  have HS1 := Lib.hid hs1
  have HN1 := Lib.hid hn1
  clear hs1 hn1
  obtain ⟨m, hm⟩ : ∃ m, m = s1.l.length := ⟨_, rfl⟩
  rw [← hm]
  have HM := Lib.hid hm
  clear hm
  go_wp2
  refine bodyPost_ret (v := .tuple #[.agg #[.slice a' m cap', .int .i64 s1.err], .bool (n1 == 1)]) (by simp [results, Try.results14, go_sem, d0, d1, hsz]) rfl ⟨.agg #[.slice a' m cap', .int .i64 s1.err], by rw [HN1.out], ?_, ?_⟩
  · rw [HS1.out, HM.out]
    exact HV.out.kept (S := Ge w.heap.size) ((((Kept.refl _ _).ge (by omega) _ _).ge (by omega) _ _).alloc _) HF.out
  · exact ((HK.out.new (by omega) _ _).new (by omega) _ _).alloc _

/-- Done. -/
theorem RDone_any (v : Value) (s : ISt) (F : Nat → Prop) (w : World) (h : RAt w F v s) :
    Calls Try.prog 20 #[v] w fun r w' => r = .returned (.int .i64 s.done) ∧ Kept NoB w w' := by
  obtain ⟨hok, b, rfl, hb⟩ := h
  obtain ⟨a, cap, rfl, _⟩ := hb
  by_cases he : s.err = 0
  · have heb : (s.err == 0) = true := by rw [he]; rfl
    have HE := Lib.hid he
    by_cases hl : 0 < s.l.length
    · have HD := Lib.hid (show s.done = 4 from if_pos ⟨he, hl⟩)
      have hl2 : (0 : Int) < (s.l.length : Int) := by omega
      clear he
      go_enter Try.func20, Try.ntmps20
      go_wp2
      go_ret
      rw [HD.out]
      exact ⟨rfl, (Kept.refl _ _).alloc _⟩
    · have HD := Lib.hid (show s.done = 0 by unfold ISt.done; rw [if_neg (fun h => hl h.2), he])
      have hl2 : decide ((0 : Int) < (s.l.length : Int)) = false := decide_eq_false (by omega)
      clear he
      go_enter Try.func20, Try.ntmps20
      go_wp2
      go_ret
      rw [HD.out, ← HE.out]
      exact ⟨rfl, (Kept.refl _ _).alloc _⟩
  · have heb : (s.err == 0) = false := by simpa using he
    have HD := Lib.hid (show s.done = s.err from if_neg (fun h => he h.1))
    clear he
    go_enter Try.func20, Try.ntmps20
    go_wp2
    go_ret
    rw [HD.out]
    exact ⟨rfl, (Kept.refl _ _).alloc _⟩

theorem Kept.facts {g : Nat} {w1 w2 : World} {a b : Value} (hq : Kept NoB w1 w2) (hl : g < w1.heap.size) (d0 : w1.cell? ⟨g, 0, none⟩ = some a) (d1 : w1.cell? ⟨g, 1, none⟩ = some b) (e0 : w1.frozen? ⟨g, 0, none⟩ = false) (e1 : w1.frozen? ⟨g, 1, none⟩ = false) :
    w2.cell? ⟨g, 0, none⟩ = some a ∧ w2.cell? ⟨g, 1, none⟩ = some b ∧ w2.frozen? ⟨g, 0, none⟩ = false ∧ w2.frozen? ⟨g, 1, none⟩ = false :=
  ⟨hq.cell (fun h => h) d0, hq.cell (fun h => h) d1, (World.frozen?_of_block (hq.block _ hl (fun h => h))).trans e0, (World.frozen?_of_block (hq.block _ hl (fun h => h))).trans e1⟩

theorem ISt.text_eq (s : ISt) (most : Int) : s.text most = (if (s.get 2).1.err = 0 then (if most < (s.get 2).2 then (⟨[], 6⟩, []) else (s.get 2).1.raw (s.get 2).2) else ((s.get 2).1, [])) := rfl

set_option maxRecDepth 100000 in
/-- Read: a text. -/
theorem RRead_any (v : Value) (s : ISt) (most : Int) (F : Nat → Prop) (w : World) (h : RAt w F v s) (hF : ∀ k, F k → k < w.heap.size) :
    Calls Try.prog 12 #[v, .int .i64 most] w fun r w' => ∃ v' b, r = .returned (.tuple #[v', b]) ∧ RAt w' F v' (s.text most).1 ∧ BSl w' F b (s.text most).2 ∧ Kept NoB w w' := by
  have HR := Lib.hid h
  have HF0 := Lib.hid hF
  have HF := Lib.hid (notGe hF)
  obtain ⟨hok, b, rfl, hb⟩ := h
  obtain ⟨hn0, hn1⟩ := s.get2_lt hb.isB
  obtain ⟨a, cap, rfl, _⟩ := hb
  have HT := Lib.hid (s.text_eq most)
  have HGet := Lib.hid (fun w h1 h2 => RGet_any (.agg #[.slice a s.l.length cap, .int .i64 s.err]) s 2 F w h1 h2)
  clear hF
  generalize (s.get 2).1 = s1 at *
  generalize (s.get 2).2 = n1 at *
  have hwr : IntKind.i64.wrap n1 = n1 := IntWalk.i64_in _ (by omega)
  go_enter Try.func12, Try.ntmps12
  go_wp2_with fail
  refine (HGet.out _ (HR.out.kept (S := NoB) (((Kept.refl _ _).alloc _).alloc _) (fun _ _ h => h)) (fun k hk => by have := HF0.out k hk; simp; omega)).mono ?_
  rintro e w1 ⟨v', rfl, hv', hk1⟩
  have HV := Lib.hid hv'
  obtain ⟨hok1, b', rfl, a', cap', rfl, _⟩ := hv'
  obtain ⟨d0, d1, e0, e1, hsz, hk2⟩ := after_call hk1
  have HK := Lib.hid hk2
  have HOK1 := Lib.hid hok1
  clear hk1 hk2 hok1
  obtain ⟨m, hm⟩ : ∃ m, m = s1.l.length := ⟨_, rfl⟩
  rw [← hm]
  have HM := Lib.hid hm
  clear hm
  by_cases he : s1.err = 0
  · have heb : (s1.err != 0) = false := by rw [he]; rfl
    have HE := Lib.hid he
    clear he
    by_cases hlt : most < n1
    · have HT2 : Hid (s.text most = (⟨[], 6⟩, [])) := by
        have := HT.out
        rw [if_pos HE.out, if_pos hlt] at this
        exact this
      go_wp2_with fail
      refine (Fail_any _ s1 6 F _ (by rw [HM.out]; exact HV.out.kept (S := NoB) ((Kept.refl _ _).alloc _) (fun _ _ h => h)) (by omega) (by omega)).mono ?_
      rintro e w2 ⟨v2, rfl, hv2, hq2⟩
      have hq3 : Kept NoB w1 w2 := ((Kept.refl NoB w1).alloc _).trans hq2 (fun _ _ h => h)
      have HK2 := Lib.hid (HK.out.trans hq3 (fun _ _ h => h))
      obtain ⟨c0, c1, g0, g1⟩ := hq3.facts hsz d0 d1 e0 e1
      have hf : s1.fail 6 = ⟨[], 6⟩ := if_pos HE.out
      rw [hf] at hv2
      have HV2 := Lib.hid hv2
      obtain ⟨_, b2, rfl, a3, cap3, rfl, _⟩ := hv2
      clear hq3 hq2 hf d0 d1 e0 e1
      go_wp2
      refine bodyPost_ret (v := .tuple #[.agg #[.slice a3 0 cap3, .int .i64 6], .slice none 0 0]) (by simp [results, Try.results12, go_sem, c0, c1]) rfl ⟨.agg #[.slice a3 0 cap3, .int .i64 6], .slice none 0 0, rfl, ?_, ?_, ?_⟩
      · rw [HT2.out]
        exact HV2.out.kept (S := Ge w.heap.size) (((Kept.refl _ _).ge (by omega) _ _).ge (by omega) _ _) HF.out
      · rw [HT2.out]; exact BSl.nil _ _
      · exact (HK2.out.new (by omega) _ _).new (by omega) _ _
    · have HT2 : Hid (s.text most = s1.raw n1) := by
        have := HT.out
        rw [if_pos HE.out, if_neg hlt] at this
        exact this
      go_wp2_with fail
      refine (RRaw_any _ s1 n1 F _ (by rw [HM.out]; exact HV.out.kept (S := NoB) ((Kept.refl _ _).alloc _) (fun _ _ h => h)) (fun k hk => by have := HF0.out k hk; simp; omega) (by omega)).mono ?_
      rintro e w2 ⟨v2, b2, rfl, hv2, hb2, hq2⟩
      have hq3 : Kept NoB w1 w2 := ((Kept.refl NoB w1).alloc _).trans hq2 (fun _ _ h => h)
      have HK2 := Lib.hid (HK.out.trans hq3 (fun _ _ h => h))
      obtain ⟨c0, c1, g0, g1⟩ := hq3.facts hsz d0 d1 e0 e1
      have HV2 := Lib.hid hv2
      have HB2 := Lib.hid hb2
      obtain ⟨_, b3, rfl, a3, cap3, rfl, _⟩ := hv2
      obtain ⟨a4, cap4, rfl, _⟩ := hb2
      clear hq3 hq2 d0 d1 e0 e1
      generalize hs2 : (s1.raw n1).1 = s2 at *
      generalize hl2 : (s1.raw n1).2 = l2 at *
      have HS2 := Lib.hid hs2
      have HL2 := Lib.hid hl2
      clear hs2 hl2
      generalize hm2 : s2.l.length = m2 at *
      generalize hm3 : l2.length = m3 at *
      have HM2 := Lib.hid hm2
      have HM3 := Lib.hid hm3
      clear hm2 hm3
      go_wp2
      refine bodyPost_ret (v := .tuple #[.agg #[.slice a3 m2 cap3, .int .i64 s2.err], .slice a4 m3 cap4]) (by simp [results, Try.results12, go_sem, c0, c1]) rfl ⟨.agg #[.slice a3 m2 cap3, .int .i64 s2.err], .slice a4 m3 cap4, rfl, ?_, ?_, ?_⟩
      · rw [HT2.out, HS2.out]
        exact HV2.out.kept (S := Ge w.heap.size) (((Kept.refl _ _).ge (by omega) _ _).ge (by omega) _ _) HF.out
      · rw [HT2.out, HL2.out]
        exact HB2.out.kept (S := Ge w.heap.size) (((Kept.refl _ _).ge (by omega) _ _).ge (by omega) _ _) HF.out
      · exact (HK2.out.new (by omega) _ _).new (by omega) _ _
  · have heb : (s1.err != 0) = true := by rw [bne_iff_ne]; exact he
    have HT2 : Hid (s.text most = (s1, [])) := by
      have := HT.out
      rw [if_neg he] at this
      exact this
    clear he
    go_wp2
    refine bodyPost_ret (v := .tuple #[.agg #[.slice a' m cap', .int .i64 s1.err], .slice none 0 0]) (by simp [results, Try.results12, go_sem, d0, d1, hsz]) rfl ⟨.agg #[.slice a' m cap', .int .i64 s1.err], .slice none 0 0, rfl, ?_, ?_, ?_⟩
    · rw [HT2.out, HM.out]
      exact HV.out.kept (S := Ge w.heap.size) ((((Kept.refl _ _).ge (by omega) _ _).ge (by omega) _ _).alloc _) HF.out
    · rw [HT2.out]; exact BSl.nil _ _
    · exact ((HK.out.new (by omega) _ _).new (by omega) _ _).alloc _
end Go.Proofs.Ytgkkiijoblphfaa
