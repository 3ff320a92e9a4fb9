/-
  What the plain functions of the chapter's package (catenaryref01) do: Get, Read, Bool and Done.
-/
import Derived.Test.YtbdenjmnohhhiaaDoorRefC
namespace Go.Proofs.YtbdenjmnohhhiaaDoor
open Go.RowKit

theorem after_call {w w1 : World} {o1 : Obj} (hk : Kept NoB ((w.alloc o1).alloc (.cells #[.slice none 0 0, .int .i64 0] 46)) w1) :
    w1.cell? ⟨w.heap.size + 1, 0, none⟩ = some (.slice none 0 0) ∧ w1.cell? ⟨w.heap.size + 1, 1, none⟩ = some (.int .i64 0) ∧ w1.frozen? ⟨w.heap.size + 1, 0, none⟩ = false ∧ w1.frozen? ⟨w.heap.size + 1, 1, none⟩ = false ∧
      w.heap.size + 1 < w1.heap.size ∧ Kept NoB w w1 := by
  have hb := res_block hk
  exact ⟨cell_of_row w1 _ 0 _ _ _ hb, cell_of_row w1 _ 1 _ _ _ hb, blk_frozen hb 0, blk_frozen hb 1, heap_lt hb, (((Kept.refl NoB w).alloc _).alloc _).trans hk (fun _ _ h => h)⟩
theorem notGe {F : Nat → Prop} {n : Nat} (hF : ∀ k, F k → k < n) : ∀ k, F k → ¬ Ge n k := fun k hk h => by
  have h1 := hF k hk
  have h2 : n ≤ k := h
  omega
theorem ISt.get_le (s : ISt) (hb : IsB s.l) (width : Int) : 0 ≤ (s.get width).2 ∧ (s.get width).2 ≤ 18446744073709551615 := by
  unfold ISt.get
  split
  · exact ⟨Int.le_refl _, by show (0 : Int) ≤ 18446744073709551615; omega⟩
  · rename_i hw
    have hl := s.raw_len width
    have hB : IsB (s.raw width).2 := by
      unfold ISt.raw
      split
      · split
        · exact IsB.nil
        · split
          · exact IsB.nil
          · exact hb.take _
      · exact IsB.nil
    have h1 := num_lt _ hB
    have h3 : 256 ^ (s.raw width).2.length ≤ 256 ^ 8 := Nat.pow_le_pow_right (by decide) (by omega)
    show (0 : Int) ≤ (num (s.raw width).2 : Int) ∧ (num (s.raw width).2 : Int) ≤ 18446744073709551615
    omega
theorem ISt.upto_all (s : ISt) (hb : IsB s.l) (width : Int) : s.upto width 18446744073709551615 = s.get width := by
  rw [s.upto_get width _ (by omega), if_neg (by have := s.get_le hb width; omega)]

set_option maxRecDepth 100000 in
/-- Get. -/
theorem RGet_any (v : Value) (s : ISt) (width : Int) (F : Nat → Prop) (w : World) (h : RAt w F v s) (hF : ∀ k, F k → k < w.heap.size) :
    Calls Tryd.prog 33 #[v, .int .i64 width] w fun r w' => ∃ v', r = .returned (.tuple #[v', .int .u64 (s.get width).2]) ∧ RAt w' F v' (s.get width).1 ∧ Kept NoB w w' := by
  have HR := Lib.hid h
  have HF0 := Lib.hid hF
  have HF := Lib.hid (notGe hF)
  obtain ⟨hok, b, rfl, hb⟩ := h
  have HU := Lib.hid (s.upto_all hb.isB width)
  obtain ⟨a, cap, rfl, _⟩ := hb
  clear hF
  go_enter Tryd.func33, Tryd.ntmps33
  go_wp2_with fail
  refine (RUpto_any _ s width _ F _ (HR.out.kept (S := NoB) (((Kept.refl _ _).alloc _).alloc _) (fun _ _ h => h)) (fun k hk => by have := HF0.out k hk; simp; omega)).mono ?_
  rintro e w1 ⟨v', rfl, hv', hk1⟩
  have HV := Lib.hid hv'
  obtain ⟨_, b', rfl, a', cap', rfl, _⟩ := hv'
  obtain ⟨d0, d1, e0, e1, hsz, hk2⟩ := after_call hk1
  have HK := Lib.hid hk2
  clear hk1 hk2
  rw [HU.out] at HV ⊢
  generalize hs1 : (s.get width).1 = s1 at *
  generalize hn1 : (s.get width).2 = n1 at *
  have HS1 := Lib.hid hs1
  have HN1 := Lib.hid hn1
  clear hs1 hn1
  obtain ⟨m, hm⟩ : ∃ m, m = s1.l.length := ⟨_, rfl⟩
  rw [← hm]
  have HM := Lib.hid hm
  clear hm
  go_wp2
  refine bodyPost_ret (v := .tuple #[.agg #[.slice a' m cap', .int .i64 s1.err], .int .u64 n1]) (by simp [results, Tryd.results33, go_sem, d0, d1]) rfl ⟨.agg #[.slice a' m cap', .int .i64 s1.err], by rw [HN1.out], ?_, ?_⟩
  · rw [HS1.out, HM.out]
    exact HV.out.kept (S := Ge w.heap.size) (((Kept.refl _ _).ge (by omega) _ _).ge (by omega) _ _) HF.out
  · exact (HK.out.new (by omega) _ _).new (by omega) _ _

/-- Bool. -/
theorem RBool_any (v : Value) (s : ISt) (F : Nat → Prop) (w : World) (h : RAt w F v s) (hF : ∀ k, F k → k < w.heap.size) :
    Calls Tryd.prog 34 #[v] w fun r w' => ∃ v', r = .returned (.tuple #[v', .bool ((s.upto 1 1).2 == 1)]) ∧ RAt w' F v' (s.upto 1 1).1 ∧ Kept NoB w w' := by
  have HR := Lib.hid h
  have HF0 := Lib.hid hF
  have HF := Lib.hid (notGe hF)
  obtain ⟨hok, b, rfl, hb⟩ := h
  obtain ⟨a, cap, rfl, _⟩ := hb
  clear hF
  go_enter Tryd.func34, Tryd.ntmps34
  go_wp2_with fail
  refine (RUpto_any _ s 1 1 F _ (HR.out.kept (S := NoB) (((Kept.refl _ _).alloc _).alloc _) (fun _ _ h => h)) (fun k hk => by have := HF0.out k hk; simp; omega)).mono ?_
  rintro e w1 ⟨v', rfl, hv', hk1⟩
  have HV := Lib.hid hv'
  obtain ⟨_, b', rfl, a', cap', rfl, _⟩ := hv'
  obtain ⟨d0, d1, e0, e1, hsz, hk2⟩ := after_call hk1
  have HK := Lib.hid hk2
  clear hk1 hk2
  generalize hs1 : (s.upto 1 1).1 = s1 at *
  generalize hn1 : (s.upto 1 1).2 = n1 at *
  have HS1 := Lib.hid hs1
  have HN1 := Lib.hid hn1
  clear hs1 hn1
  obtain ⟨m, hm⟩ : ∃ m, m = s1.l.length := ⟨_, rfl⟩
  rw [← hm]
  have HM := Lib.hid hm
  clear hm
  go_wp2
  refine bodyPost_ret (v := .tuple #[.agg #[.slice a' m cap', .int .i64 s1.err], .bool (n1 == 1)]) (by simp [results, Tryd.results34, go_sem, d0, d1, hsz]) rfl ⟨.agg #[.slice a' m cap', .int .i64 s1.err], by rw [HN1.out], ?_, ?_⟩
  · rw [HS1.out, HM.out]
    exact HV.out.kept (S := Ge w.heap.size) ((((Kept.refl _ _).ge (by omega) _ _).ge (by omega) _ _).alloc _) HF.out
  · exact ((HK.out.new (by omega) _ _).new (by omega) _ _).alloc _

theorem Kept.facts {g : Nat} {w1 w2 : World} {a b : Value} (hq : Kept NoB w1 w2) (hl : g < w1.heap.size) (d0 : w1.cell? ⟨g, 0, none⟩ = some a) (d1 : w1.cell? ⟨g, 1, none⟩ = some b) (e0 : w1.frozen? ⟨g, 0, none⟩ = false) (e1 : w1.frozen? ⟨g, 1, none⟩ = false) :
    w2.cell? ⟨g, 0, none⟩ = some a ∧ w2.cell? ⟨g, 1, none⟩ = some b ∧ w2.frozen? ⟨g, 0, none⟩ = false ∧ w2.frozen? ⟨g, 1, none⟩ = false :=
  ⟨hq.cell (fun h => h) d0, hq.cell (fun h => h) d1, (World.frozen?_of_block (hq.block _ hl (fun h => h))).trans e0, (World.frozen?_of_block (hq.block _ hl (fun h => h))).trans e1⟩

theorem ISt.text_eq (s : ISt) (most : Int) : s.text most = (if (s.get 2).1.err = 0 then (if most < (s.get 2).2 then (⟨[], 6⟩, []) else (s.get 2).1.raw (s.get 2).2) else ((s.get 2).1, [])) := rfl

end Go.Proofs.YtbdenjmnohhhiaaDoor
