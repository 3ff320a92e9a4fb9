/-
  Package craq: those that wait, in memory; Clone, New, Len, List, Clear; calls at none.
-/
import Derived.Test.YtnnmkmipeoajjaaGreatDoorCrqG
import Derived.Laws.AppendOwn
namespace Go.Proofs.YtnnmkmipeoajjaaGreatDoor
open Go.RowKit
set_option linter.unusedVariables false
set_option linter.unusedSimpArgs false

theorem CloneR_nil (w : World) : Calls Tryz.prog 80 #[.slice none 0 0] w fun e w' => e = .returned (.slice none 0 0) ∧ w = w' := by
  have hn := fun (w : World) => Lib.run_eql_slice_nil (P := Tryz.prog) w 46 33 none 0 0 0 0 Tryz.underlying46
  go_enter Tryz.func80, Tryz.ntmps80
  go_wp2
  go_ret
  exact ⟨rfl, rfl⟩
set_option maxRecDepth 100000 in
theorem CloneR_any (v : Value) (L : List Rq) (w : World) (h : RqOw 33 0 w v L) (hl : L.length ≤ 1000) :
    Calls Tryz.prog 80 #[v] w fun e w' => ∃ a' c', e = .returned (.slice a' L.length c') ∧ RqOw 33 0 w' (.slice a' L.length c') L ∧ Kept NoB w w' := by
  rcases h.2 with ⟨rfl, h0⟩ | ⟨r, c, cur, rfl, hB, hr, h1, h2, h3, h4⟩
  · have hL : L = [] := List.eq_nil_of_length_eq_zero h0
    subst hL
    refine (CloneR_nil w).mono ?_
    rintro e w' ⟨rfl, rfl⟩
    exact ⟨none, 0, rfl, RqOw.nil _ _ _, Kept.refl _ _⟩
  · obtain ⟨i0, hi0, hz0, hz1, hz2⟩ := info_parts info_rq22
    obtain ⟨m, hm⟩ : ∃ m, m = L.length := ⟨_, rfl⟩
    have hn := fun (w : World) => Lib.run_eql_slice_nil (P := Tryz.prog) w 46 33 (some ⟨r, 0, none⟩) m c 0 0 Tryz.underlying46
    have hcl := rql_len L
    have hnews : ∀ j u, (rql L)[j]? = some u → (w.alloc (.cells #[] 33)).cell? ((⟨r, 0, none⟩ : Addr).add j) = some u := by
      intro j u hu
      have hadd : (⟨r, 0, none⟩ : Addr).add j = ⟨r, j, none⟩ := by unfold Addr.add; split <;> simp_all
      rw [hadd]
      have := World.ownsRow.cells h (g := r) rfl j u hu
      rw [hadd] at this
      exact cell_alloc this _
    have hmade := World.ownsRow_made (base := w.heap.size) (size := 4) w #[] (e := 33) 0 (Nat.le_refl _) (by decide) rfl
    have HM := Lib.hid hmade
    have HN := Lib.hid hnews
    have HL := Lib.hid hcl
    have HME := Lib.hid hm
    have hml : m ≤ 1000 := by rw [hm]; exact hl
    rw [← hm] at HL ⊢
    clear hmade hnews hcl h hm hr h1 h2 h3 h4
    go_enter Tryz.func80, Tryz.ntmps80
    go_wp2_with (at_builtin; refine wpList_append_own _ (by rfl) (.tmp 5) (.tmp 6) 46 (by rfl) w.heap.size 33 i0 _ 4 32 Tryz.underlying46 hi0 hz0 hz1 hz2 rfl (by decide) (.slice (some ⟨w.heap.size, 0, none⟩) 0 0) 0 [] (by rfl) HM.out ⟨r, 0, none⟩ m c (rql L) (by rfl) HL.out HN.out (rql_one L) (by unfold maxLen; omega) (by omega) (by simp) ?_; intro v' w1 hown1 hgrow _; have HO1 := Lib.hid hown1; have HG1 := Lib.hid hgrow; clear hown1 hgrow)
    go_ret
    have h1 := HO1.out
    rw [Nat.zero_add, List.nil_append] at h1
    have hform : ∃ a' c', v' = .slice a' m c' := by
      rcases h1.2 with ⟨rfl, h0⟩ | ⟨g, cap, cur, rfl, _⟩
      · exact ⟨none, 0, by rw [h0]⟩
      · exact ⟨_, _, rfl⟩
    obtain ⟨a', c', rfl⟩ := hform
    refine ⟨a', c', rfl, ?_, (Kept.refl _ _).alloc _ |>.grown HG1.out (fun k hk => .inr (by have : w.heap.size = k := (by simpa [Value.ownBlock] using hk); omega))⟩
    have h2 : RqOw 33 w.heap.size w1 (.slice a' m c') L := by unfold RqOw; rw [← HME.out]; exact h1
    exact h2.mono (Nat.zero_le _)
/-- Those that wait, at block g. -/
def RdsAt (w : World) (g : Nat) (a : Option Addr) (c : Nat) (t : Int) (L : List Rq) : Prop :=
  w.heap[g]? = some (.cells #[.slice a L.length c, .int .u64 t] 133 (0, 0)) ∧ RqOw 33 0 w (.slice a L.length c) L
theorem RdsAt.no {w w' : World} {g : Nat} {a : Option Addr} {c : Nat} {t : Int} {L : List Rq} (h : RdsAt w g a c t L) (hk : Kept NoB w w') : RdsAt w' g a c t L := ⟨hk.heap (fun h => h) h.1, h.2.no hk⟩
/-- Their blocks. -/
def FtR (g : Nat) (a : Option Addr) (n c : Nat) (k : Nat) : Prop := k = g ∨ some k = (Value.slice a n c).ownBlock
theorem QNew_any (w : World) : Calls Tryz.prog 14 #[] w fun e w' => e = .returned (.pointer (some ⟨w.heap.size, 0, none⟩)) ∧ RdsAt w' w.heap.size none 0 0 [] ∧ w' = w.alloc (.cells #[.slice none 0 0, .int .u64 0] 133) := by
  go_enter Tryz.func14, Tryz.ntmps14
  go_wp2
  go_ret
  exact ⟨rfl, ⟨heap_alloc_new w _, RqOw.nil _ _ _⟩, rfl⟩
theorem QLenN_any (w : World) : Calls Tryz.prog 20 #[.pointer none] w fun e w' => e = .returned (.int .i64 0) ∧ w = w' := by
  go_enter Tryz.func20, Tryz.ntmps20
  go_wp2
  go_ret
  exact ⟨rfl, rfl⟩
theorem QListN_any (w : World) : Calls Tryz.prog 22 #[.pointer none] w fun e w' => e = .returned (.slice none 0 0) ∧ w = w' := by
  go_enter Tryz.func22, Tryz.ntmps22
  go_wp2
  go_ret
  exact ⟨rfl, rfl⟩
theorem QClearN_any (w : World) : Calls Tryz.prog 19 #[.pointer none] w fun e w' => e = .returned (.int .i64 0) ∧ w = w' := by
  go_enter Tryz.func19, Tryz.ntmps19
  go_wp2_with (go_at_call 20; refine (QLenN_any _).mono ?_; rintro e w2 ⟨rfl, rfl⟩)
  go_ret
  exact ⟨rfl, rfl⟩
theorem QAskN_any (c n k : Int) (w : World) : Calls Tryz.prog 15 #[.pointer none, .int .i64 c, .int .u64 n, .int .u32 k] w fun e w' => e = .returned (.tuple #[rqv rq0, .int .i64 2]) ∧ Kept NoB w w' := by
  obtain ⟨V, hV⟩ : ∃ V, V = (w.alloc (.cells #[.int .i64 c] 3)).alloc (.cells #[.int .u64 0, .int .i64 0, .int .u64 0, .int .u32 0] 33) := ⟨_, rfl⟩
  have hk : Kept NoB w V := by rw [hV]; exact ((Kept.refl _ _).alloc _).alloc _
  have hb : V.heap[w.heap.size + 1]? = some (.cells #[.int .u64 0, .int .i64 0, .int .u64 0, .int .u32 0] 33 (0, 0)) := by
    rw [hV]; have := heap_alloc_new (w.alloc (.cells #[.int .i64 c] 3)) (.cells #[.int .u64 0, .int .i64 0, .int .u64 0, .int .u32 0] 33); rwa [World.size_alloc] at this
  have HV := Lib.hid hV
  have HK := Lib.hid hk
  have HB := Lib.hid hb
  obtain ⟨d0, d1, d2, d3, f0, f1, f2, f3⟩ := cells4q hb
  clear hV hk hb
  go_enter Tryz.func15, Tryz.ntmps15
  go_upto_region 1 with fail
  rw [← HV.out]
  go_wp2
  obtain ⟨s0, s1, s2, s3, _⟩ := cells4q (four22_at HB.out (.int .u64 0) (.int .i64 0) (.int .u64 0) (.int .u32 0))
  have hk4 := four22_kept V (w.heap.size + 1) (.int .u64 0) (.int .i64 0) (.int .u64 0) (.int .u32 0)
  have HK4 := Lib.hid hk4
  clear hk4
  refine bodyPost_ret (v := .tuple #[.agg #[.int .u64 0, .int .i64 0, .int .u64 0, .int .u32 0], .int .i64 2]) (by simp [results, Tryz.results15, go_sem, s0, s1, s2, s3]) rfl ?_
  exact ⟨rfl, HK.out.trans HK4.out (fun i hi h => by have h : i = w.heap.size + 1 := h; omega)⟩
theorem QToldN_any (t : Int) (w : World) : Calls Tryz.prog 17 #[.pointer none, .int .u64 t] w fun e w' => e = .returned (.tuple #[rqv rq0, .bool false]) ∧ Kept NoB w w' := by
  obtain ⟨V, hV⟩ : ∃ V, V = (w.alloc (.cells #[.int .u64 t] 25)).alloc (.cells #[.int .u64 0, .int .i64 0, .int .u64 0, .int .u32 0] 33) := ⟨_, rfl⟩
  have hk : Kept NoB w V := by rw [hV]; exact ((Kept.refl _ _).alloc _).alloc _
  have hb : V.heap[w.heap.size + 1]? = some (.cells #[.int .u64 0, .int .i64 0, .int .u64 0, .int .u32 0] 33 (0, 0)) := by
    rw [hV]; have := heap_alloc_new (w.alloc (.cells #[.int .u64 t] 25)) (.cells #[.int .u64 0, .int .i64 0, .int .u64 0, .int .u32 0] 33); rwa [World.size_alloc] at this
  have HV := Lib.hid hV
  have HK := Lib.hid hk
  have HB := Lib.hid hb
  obtain ⟨d0, d1, d2, d3, f0, f1, f2, f3⟩ := cells4q hb
  clear hV hk hb
  go_enter Tryz.func17, Tryz.ntmps17
  go_upto_region 1 with fail
  rw [← HV.out]
  go_wp2
  obtain ⟨s0, s1, s2, s3, _⟩ := cells4q (four22_at HB.out (.int .u64 0) (.int .i64 0) (.int .u64 0) (.int .u32 0))
  have hk4 := four22_kept V (w.heap.size + 1) (.int .u64 0) (.int .i64 0) (.int .u64 0) (.int .u32 0)
  have HK4 := Lib.hid hk4
  clear hk4
  refine bodyPost_ret (v := .tuple #[.agg #[.int .u64 0, .int .i64 0, .int .u64 0, .int .u32 0], .bool false]) (by simp [results, Tryz.results17, go_sem, s0, s1, s2, s3]) rfl ?_
  exact ⟨rfl, HK.out.trans HK4.out (fun i hi h => by have h : i = w.heap.size + 1 := h; omega)⟩
theorem QLen_any (g : Nat) (a : Option Addr) (c : Nat) (t : Int) (L : List Rq) (w : World) (h : RdsAt w g a c t L) : Calls Tryz.prog 20 #[.pointer (some ⟨g, 0, none⟩)] w fun e w' => e = .returned (.int .i64 L.length) ∧ w = w' := by
  obtain ⟨q0, _⟩ := cells2q h.1
  clear h
  go_enter Tryz.func20, Tryz.ntmps20
  go_wp2
  go_ret
  exact ⟨rfl, rfl⟩
theorem QList_any (g : Nat) (a : Option Addr) (c : Nat) (t : Int) (L : List Rq) (w : World) (h : RdsAt w g a c t L) (hl : L.length ≤ 1000) : Calls Tryz.prog 22 #[.pointer (some ⟨g, 0, none⟩)] w fun e w' => ∃ a' c', e = .returned (.slice a' L.length c') ∧ RqOw 33 0 w' (.slice a' L.length c') L ∧ Kept NoB w w' := by
  obtain ⟨q0, _⟩ := cells2q h.1
  have HC := Lib.hid (CloneR_any _ L w h.2 hl)
  clear h
  go_enter Tryz.func22, Tryz.ntmps22
  go_wp2_with (go_at_call 80; refine HC.out.mono ?_; rintro e w2 ⟨a', c', rfl, hr, hk⟩; have HR := Lib.hid hr; have HK := Lib.hid hk; clear hr hk)
  go_ret
  exact ⟨_, _, rfl, HR.out, HK.out⟩
theorem QClear_any (g : Nat) (a : Option Addr) (c : Nat) (t : Int) (L : List Rq) (w : World) (h : RdsAt w g a c t L) : Calls Tryz.prog 19 #[.pointer (some ⟨g, 0, none⟩)] w fun e w' => e = .returned (.int .i64 L.length) ∧ (∃ a' c', RdsAt w' g a' c' t [] ∧ ∀ k, some k = (Value.slice a' 0 c').ownBlock → some k = (Value.slice a L.length c).ownBlock) ∧ Kept (FtR g a L.length c) w w' := by
  obtain ⟨q0, q1, z0, z1⟩ := cells2q h.1
  have HL := Lib.hid (QLen_any g a c t L w h)
  obtain ⟨m, hm⟩ : ∃ m, m = L.length := ⟨_, rfl⟩
  have H := Lib.hid h
  rw [← hm] at q0 HL ⊢
  have HM := Lib.hid hm
  clear h hm
  by_cases h0 : 0 < m
  · have h1 : (0 : Int) < m := by omega
    go_enter Tryz.func19, Tryz.ntmps19
    go_wp2_with (go_at_call 20; refine HL.out.mono ?_; rintro e w2 ⟨rfl, rfl⟩)
    go_ret
    refine ⟨rfl, ⟨none, 0, ⟨?_, RqOw.nil _ _ _⟩, fun k hk => by simp [Value.ownBlock] at hk⟩, (Kept.refl (FtR g a m c) w).setCell (p := ⟨g, 0, none⟩) (.inl (.inl rfl)) _⟩
    have := blkV_set H.out.1 0 (.slice none 0 0)
    simpa using this
  · have hd : ¬ (0 : Int) < m := by omega
    go_enter Tryz.func19, Tryz.ntmps19
    go_wp2_with (go_at_call 20; refine HL.out.mono ?_; rintro e w2 ⟨rfl, rfl⟩)
    go_ret
    have hL : L = [] := List.eq_nil_of_length_eq_zero (by rw [← HM.out]; omega)
    have hH := H.out
    subst hL
    exact ⟨rfl, ⟨a, c, hH, fun k hk => by rw [HM.out]; exact hk⟩, Kept.refl _ _⟩
end Go.Proofs.YtnnmkmipeoajjaaGreatDoor
